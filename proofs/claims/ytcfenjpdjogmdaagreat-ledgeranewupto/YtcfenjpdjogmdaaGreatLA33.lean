import Derived.Test.YtcfenjpdjogmdaaGreatLA32
import Derived.Deep.DeepCutAuto
namespace Go.Proofs.YtcfenjpdjogmdaaGreat
open Go.RowKit

/-- Holds as they lie. -/
structure Hos (W : World) (b off : Nat) (l : List Ho) : Prop where
  ok : ∀ x ∈ l, x.In
  at_ : ∀ (i : Nat) (x : Ho), l[i]? = some x → W.cell? ⟨b, off + i * 3, none⟩ = some (.int .u64 (x.id : Nat)) ∧ W.cell? ⟨b, off + i * 3 + 1, none⟩ = some (.int .u64 (x.fr : Nat)) ∧ W.cell? ⟨b, off + i * 3 + 2, none⟩ = some (.int .u64 (x.am : Nat))
/-- Lines as they lie. -/
structure Jns (W : World) (b off : Nat) (l : List Jn) : Prop where
  ok : ∀ x ∈ l, x.In
  at_ : ∀ (i : Nat) (x : Jn), l[i]? = some x → W.cell? ⟨b, off + i * 5, none⟩ = some (.int .u64 (x.sq : Nat)) ∧ W.cell? ⟨b, off + i * 5 + 1, none⟩ = some (.int .i64 (x.kd : Nat)) ∧ W.cell? ⟨b, off + i * 5 + 2, none⟩ = some (.int .u64 (x.fr : Nat)) ∧ W.cell? ⟨b, off + i * 5 + 3, none⟩ = some (.int .u64 (x.tw : Nat)) ∧ W.cell? ⟨b, off + i * 5 + 4, none⟩ = some (.int .u64 (x.am : Nat))
theorem cell_same {W W' : World} {b : Nat} (h : W'.heap[b]? = W.heap[b]?) (i : Nat) : W'.cell? ⟨b, i, none⟩ = W.cell? ⟨b, i, none⟩ := by simp [World.cell?, h]
theorem Acs.same {W W' : World} {b off : Nat} {l : List Ac} (h : Acs W b off l) (hb : W'.heap[b]? = W.heap[b]?) : Acs W' b off l := ⟨h.ok, fun i x hi j v hj => (cell_same hb _).trans (h.at_ i x hi j v hj)⟩
theorem Hos.same {W W' : World} {b off : Nat} {l : List Ho} (h : Hos W b off l) (hb : W'.heap[b]? = W.heap[b]?) : Hos W' b off l := ⟨h.ok, fun i x hi => by
  obtain ⟨c0, c1, c2⟩ := h.at_ i x hi
  exact ⟨(cell_same hb _).trans c0, (cell_same hb _).trans c1, (cell_same hb _).trans c2⟩⟩
theorem Jns.same {W W' : World} {b off : Nat} {l : List Jn} (h : Jns W b off l) (hb : W'.heap[b]? = W.heap[b]?) : Jns W' b off l := ⟨h.ok, fun i x hi => by
  obtain ⟨c0, c1, c2, c3, c4⟩ := h.at_ i x hi
  exact ⟨(cell_same hb _).trans c0, (cell_same hb _).trans c1, (cell_same hb _).trans c2, (cell_same hb _).trans c3, (cell_same hb _).trans c4⟩⟩
theorem hcells_at : ∀ {l : List Ho} {i : Nat} {a : Ho}, l[i]? = some a → ∀ (j : Nat) (v : Value), a.vals[j]? = some v → (hcells l)[i * 3 + j]? = some v
  | [], i, a, h => by simp at h
  | x :: l, 0, a, h => by
    simp at h
    subst h
    intro j v hj
    have hl := (List.getElem?_eq_some_iff.1 hj).1
    show (x.vals ++ hcells l)[0 * 3 + j]? = some v
    rw [Nat.zero_mul, Nat.zero_add, List.getElem?_append_left hl]
    exact hj
  | x :: l, i + 1, a, h => by
    intro j v hj
    have ih := hcells_at (l := l) (i := i) (by simpa using h) j v hj
    show (x.vals ++ hcells l)[(i + 1) * 3 + j]? = some v
    rw [List.getElem?_append_right (by show 3 ≤ _; omega)]
    show (hcells l)[(i + 1) * 3 + j - 3]? = some v
    rw [show (i + 1) * 3 + j - 3 = i * 3 + j by omega]
    exact ih
theorem jcells_at : ∀ {l : List Jn} {i : Nat} {a : Jn}, l[i]? = some a → ∀ (j : Nat) (v : Value), a.vals[j]? = some v → (jcells l)[i * 5 + j]? = some v
  | [], i, a, h => by simp at h
  | x :: l, 0, a, h => by
    simp at h
    subst h
    intro j v hj
    have hl := (List.getElem?_eq_some_iff.1 hj).1
    show (x.vals ++ jcells l)[0 * 5 + j]? = some v
    rw [Nat.zero_mul, Nat.zero_add, List.getElem?_append_left hl]
    exact hj
  | x :: l, i + 1, a, h => by
    intro j v hj
    have ih := jcells_at (l := l) (i := i) (by simpa using h) j v hj
    show (x.vals ++ jcells l)[(i + 1) * 5 + j]? = some v
    rw [List.getElem?_append_right (by show 5 ≤ _; omega)]
    show (jcells l)[(i + 1) * 5 + j - 5]? = some v
    rw [show (i + 1) * 5 + j - 5 = i * 5 + j by omega]
    exact ih
theorem hos_of_row {W : World} {base g n cap : Nat} {l : List Ho} {m : Nat} (ho : W.ownsRow base 84 3 (.slice (some ⟨g, 0, none⟩) n cap) m (hcells l)) (hin : ∀ x ∈ l, x.In) : Hos W g 0 l := by
  refine ⟨hin, fun i x hi => ?_⟩
  have c0 := ho.cells (g := g) rfl (i * 3 + 0) _ (hcells_at hi 0 _ rfl)
  have c1 := ho.cells (g := g) rfl (i * 3 + 1) _ (hcells_at hi 1 _ rfl)
  have c2 := ho.cells (g := g) rfl (i * 3 + 2) _ (hcells_at hi 2 _ rfl)
  rw [add_at, Nat.zero_add] at c0 c1 c2
  rw [Nat.zero_add]
  exact ⟨c0, c1, c2⟩
theorem jns_of_row {W : World} {base g n cap : Nat} {l : List Jn} {m : Nat} (ho : W.ownsRow base 69 5 (.slice (some ⟨g, 0, none⟩) n cap) m (jcells l)) (hin : ∀ x ∈ l, x.In) : Jns W g 0 l := by
  refine ⟨hin, fun i x hi => ?_⟩
  have c0 := ho.cells (g := g) rfl (i * 5 + 0) _ (jcells_at hi 0 _ rfl)
  have c1 := ho.cells (g := g) rfl (i * 5 + 1) _ (jcells_at hi 1 _ rfl)
  have c2 := ho.cells (g := g) rfl (i * 5 + 2) _ (jcells_at hi 2 _ rfl)
  have c3 := ho.cells (g := g) rfl (i * 5 + 3) _ (jcells_at hi 3 _ rfl)
  have c4 := ho.cells (g := g) rfl (i * 5 + 4) _ (jcells_at hi 4 _ rfl)
  rw [add_at, Nat.zero_add] at c0 c1 c2 c3 c4
  rw [Nat.zero_add]
  exact ⟨c0, c1, c2, c3, c4⟩
/-- An image's accounts and holds, as they lie: blocks ga and gh. -/
structure Im (W : World) (A : List Ac) (H : List Ho) (ao ho : Option Addr) (ga gh : Nat) : Prop where
  ao : 0 < A.length → ao = some ⟨ga, 0, none⟩ ∧ ga < W.heap.size
  ho : 0 < H.length → ho = some ⟨gh, 0, none⟩ ∧ gh < W.heap.size
  a : Acs W ga 0 A
  h : Hos W gh 0 H
theorem Im.kept {W W' : World} {A : List Ac} {H : List Ho} {ao ho : Option Addr} {ga gh : Nat} (h : Im W A H ao ho ga gh) (hs : W.heap.size ≤ W'.heap.size) (h1 : 0 < A.length → W'.heap[ga]? = W.heap[ga]?) (h2 : 0 < H.length → W'.heap[gh]? = W.heap[gh]?) : Im W' A H ao ho ga gh := by
  refine ⟨fun hp => ⟨(h.ao hp).1, Nat.lt_of_lt_of_le (h.ao hp).2 hs⟩, fun hp => ⟨(h.ho hp).1, Nat.lt_of_lt_of_le (h.ho hp).2 hs⟩, ?_, ?_⟩
  · by_cases e : 0 < A.length
    · exact h.a.same (h1 e)
    · exact ⟨h.a.ok, fun i x hi => by have := (List.getElem?_eq_some_iff.1 hi).1; omega⟩
  · by_cases e : 0 < H.length
    · exact h.h.same (h2 e)
    · exact ⟨h.h.ok, fun i x hi => by have := (List.getElem?_eq_some_iff.1 hi).1; omega⟩
theorem Im.below {W W' : World} {A : List Ac} {H : List Ho} {ao ho : Option Addr} {ga gh : Nat} (h : Im W A H ao ho ga gh) (hb : Below W.heap.size W W') : Im W' A H ao ho ga gh := h.kept hb.size (fun hp => hb.block _ (h.ao hp).2) (fun hp => hb.block _ (h.ho hp).2)
theorem slice_inj {a a' : Option Addr} {n n' c c' : Nat} (h : Value.slice a n c = .slice a' n' c') : a = a' ∧ n = n' ∧ c = c' := by cases h; exact ⟨rfl, rfl, rfl⟩
/-- Lists that are one's own are an image's. -/
theorem im_of_rows {W : World} {base base' : Nat} {A : List Ac} {H : List Ho} {ao ho : Option Addr} {cap hcap : Nat} (ra : W.ownsRow base 81 4 (.slice ao A.length cap) A.length (acells A)) (rh : W.ownsRow base' 84 3 (.slice ho H.length hcap) H.length (hcells H)) (ia : ∀ x ∈ A, x.In) (ih : ∀ x ∈ H, x.In) : ∃ ga gh, Im W A H ao ho ga gh ∧ (0 < A.length → base ≤ ga) ∧ (0 < H.length → base' ≤ gh) := by
  have ha : ∃ ga, (0 < A.length → ao = some ⟨ga, 0, none⟩ ∧ ga < W.heap.size ∧ base ≤ ga) ∧ Acs W ga 0 A := by
    rcases ra.2 with ⟨h1, h0⟩ | ⟨g, cp, cur, h1, _, hg, _⟩
    · exact ⟨0, fun h => by omega, ia, fun i x hi => by have := (List.getElem?_eq_some_iff.1 hi).1; omega⟩
    · obtain ⟨e, _, e3⟩ := slice_inj h1
      have := ra.lt g (by rw [h1]; rfl)
      rw [e] at ra
      exact ⟨g, fun _ => ⟨e, this.2, this.1⟩, acs_of_row ra ia⟩
  have hh : ∃ gh, (0 < H.length → ho = some ⟨gh, 0, none⟩ ∧ gh < W.heap.size ∧ base' ≤ gh) ∧ Hos W gh 0 H := by
    rcases rh.2 with ⟨h1, h0⟩ | ⟨g, cp, cur, h1, _, hg, _⟩
    · exact ⟨0, fun h => by omega, ih, fun i x hi => by have := (List.getElem?_eq_some_iff.1 hi).1; omega⟩
    · obtain ⟨e, _, e3⟩ := slice_inj h1
      have := rh.lt g (by rw [h1]; rfl)
      rw [e] at rh
      exact ⟨g, fun _ => ⟨e, this.2, this.1⟩, hos_of_row rh ih⟩
  obtain ⟨ga, h1, h2⟩ := ha
  obtain ⟨gh, h3, h4⟩ := hh
  exact ⟨ga, gh, ⟨fun hp => ⟨(h1 hp).1, (h1 hp).2.1⟩, fun hp => ⟨(h3 hp).1, (h3 hp).2.1⟩, h2, h4⟩, fun hp => (h1 hp).2.2, fun hp => (h3 hp).2.2⟩
abbrev z4 : Array Value := #[.int .u64 0, .int .u64 0, .int .u64 0, .int .u64 0]
end Go.Proofs.YtcfenjpdjogmdaaGreat
namespace Go.Proofs.YtcfenjpdjogmdaaGreat
open Go.RowKit

theorem set5b {w w0 : World} {tb B : Nat} {t : TypeId} {cs : Array Value} (hs : cs.size = 5) (h : w.heap[tb]? = some (.cells cs t (0, 0))) (hB : Below B w0 w) (hk : B ≤ tb) (v0 v1 v2 v3 v4 : Value) {wf : World} (he : ((((w.setCell ⟨tb, 0, none⟩ v0).setCell ⟨tb, 1, none⟩ v1).setCell ⟨tb, 2, none⟩ v2).setCell ⟨tb, 3, none⟩ v3).setCell ⟨tb, 4, none⟩ v4 = wf) :
    wf.heap[tb]? = some (.cells #[v0, v1, v2, v3, v4] t (0, 0)) ∧ Below B w0 wf ∧ w.grownBy wf (some tb) := by
  subst he
  have gr := grown_two (grown_two (grown_two (grown_two (grown_set w tb 0 v0) (grown_set _ tb 1 v1)) (grown_set _ tb 2 v2)) (grown_set _ tb 3 v3)) (grown_set _ tb 4 v4)
  refine ⟨?_, hB.grown (row := some tb) gr (by have := block_lt h; omega) (fun q e => by cases e; exact hk), gr⟩
  obtain ⟨l⟩ := cs
  simp only [List.size_toArray] at hs
  match l, hs with
  | [a, b, c, d, e], _ => simp [World.setCell, Array.getElem?_modify, h]
end Go.Proofs.YtcfenjpdjogmdaaGreat
namespace Go.Proofs.YtcfenjpdjogmdaaGreat
open Go.RowKit

/-- Rows of unlike types lie apart. -/
theorem rows2_ne {W : World} {B1 B2 e1 e2 k1 k2 n m : Nat} {v u : Value} {xs ys : List Value} (h : W.ownsRow B1 e1 k1 v n xs) (h' : W.ownsRow B2 e2 k2 u m ys) (hne : e1 ≠ e2) : u.ownBlock = none ∨ u.ownBlock ≠ v.ownBlock := by
  rcases h'.2 with ⟨rfl, _⟩ | ⟨g', c', cur', rfl, _, hg', _⟩
  · exact .inl rfl
  · refine .inr (fun e => ?_)
    rcases h.2 with ⟨rfl, _⟩ | ⟨g, c, cur, rfl, _, hg, _⟩
    · cases e
    · cases e
      rw [hg] at hg'
      cases hg'
      exact hne rfl
def Jn.arr (e : Jn) : Array Value := #[.int .u64 (e.sq : Nat), .int .i64 (e.kd : Nat), .int .u64 (e.fr : Nat), .int .u64 (e.tw : Nat), .int .u64 (e.am : Nat)]
/-- The world of fold: the boxes of the image, of the line, of the answer and of the new image, which has these accounts and holds. -/
structure Fo (w : World) (mc : Array Value) (e : Jn) (t0 t1 : Value) (out : List Ac) (v : Value) (hs : List Ho) (u : Value) (V : World) : Prop where
  bel : Below w.heap.size w V
  b0 : V.heap[w.heap.size]? = some (.cells mc 35 (0, 0))
  b1 : V.heap[w.heap.size + 1]? = some (.cells e.arr 69 (0, 0))
  b2 : V.heap[w.heap.size + 1 + 1]? = some (.cells #[.int .u64 0, .int .u64 0, .slice none 0 0, .slice none 0 0, .slice none 0 0] 35 (0, 0))
  b3 : V.heap[w.heap.size + 1 + 1 + 1]? = some (.cells #[t0, t1, v, u, .slice none 0 0] 35 (0, 0))
  ra : V.ownsRow (w.heap.size + 1 + 1 + 1 + 1) 81 4 v out.length (acells out)
  rh : V.ownsRow (w.heap.size + 1 + 1 + 1 + 1) 84 3 u hs.length (hcells hs)
section
variable {w : World} {mc : Array Value} {e : Jn} {t0 t1 : Value} {out : List Ac} {v : Value} {hs : List Ho} {u : Value} {V : World}
theorem Fo.alloc (h : Fo w mc e t0 t1 out v hs u V) (o : Obj) : Fo w mc e t0 t1 out v hs u (V.alloc o) := by
  have hg := World.grownBy_alloc V o none
  exact ⟨h.bel.alloc h.bel.size o, (hg.block _ (block_lt h.b0) (by simp)).trans h.b0, (hg.block _ (block_lt h.b1) (by simp)).trans h.b1, (hg.block _ (block_lt h.b2) (by simp)).trans h.b2, (hg.block _ (block_lt h.b3) (by simp)).trans h.b3, h.ra.alloc o, h.rh.alloc o⟩
/-- A box of one's own turns. -/
theorem Fo.box {V' : World} {q : Nat} (h : Fo w mc e t0 t1 out v hs u V) (hg : V.grownBy V' (some q)) (hq : w.heap.size + 1 + 1 + 1 < q) (h1 : v.ownBlock ≠ some q) (h2 : u.ownBlock ≠ some q) : Fo w mc e t0 t1 out v hs u V' := by
  have n : ∀ k, k ≤ w.heap.size + 1 + 1 + 1 → some k ≠ some q := fun k hk e => by cases e; omega
  exact ⟨h.bel.grown hg h.bel.size (fun j e => by cases e; omega), (hg.block _ (block_lt h.b0) (n _ (by omega))).trans h.b0, (hg.block _ (block_lt h.b1) (n _ (by omega))).trans h.b1, (hg.block _ (block_lt h.b2) (n _ (by omega))).trans h.b2, (hg.block _ (block_lt h.b3) (n _ (by omega))).trans h.b3, h.ra.kept hg (.inr h1), h.rh.kept hg (.inr h2)⟩
theorem Fo.new (h : Fo w mc e t0 t1 out v hs u V) : v.ownBlock ≠ some V.heap.size ∧ u.ownBlock ≠ some V.heap.size ∧ w.heap.size + 1 + 1 + 1 < V.heap.size := ⟨fun e => by have := (h.ra.lt _ e).2; omega, fun e => by have := (h.rh.lt _ e).2; omega, block_lt h.b3⟩
end
theorem Fo.res {w : World} {mc : Array Value} {e : Jn} {t0 t1 : Value} {out : List Ac} {v : Value} {hs : List Ho} {u : Value} {V : World} (h : Fo w mc e t0 t1 out v hs u V) : (V.cell? ⟨w.heap.size + 1 + 1 + 1, 0, none⟩ = some t0 ∧ V.cell? ⟨w.heap.size + 1 + 1 + 1, 1, none⟩ = some t1 ∧ V.cell? ⟨w.heap.size + 1 + 1 + 1, 2, none⟩ = some v ∧ V.cell? ⟨w.heap.size + 1 + 1 + 1, 3, none⟩ = some u ∧ V.cell? ⟨w.heap.size + 1 + 1 + 1, 4, none⟩ = some (.slice none 0 0) ∧ w.heap.size + 1 + 1 + 1 < V.heap.size) ∧ (V.cell? ⟨w.heap.size + 1 + 1, 0, none⟩ = some (.int .u64 0) ∧ V.cell? ⟨w.heap.size + 1 + 1, 1, none⟩ = some (.int .u64 0) ∧ V.cell? ⟨w.heap.size + 1 + 1, 2, none⟩ = some (.slice none 0 0) ∧ V.cell? ⟨w.heap.size + 1 + 1, 3, none⟩ = some (.slice none 0 0) ∧ V.cell? ⟨w.heap.size + 1 + 1, 4, none⟩ = some (.slice none 0 0) ∧ w.heap.size + 1 + 1 < V.heap.size) ∧ V.frozen? ⟨w.heap.size + 1 + 1, 0, none⟩ = false ∧ V.frozen? ⟨w.heap.size + 1 + 1, 1, none⟩ = false ∧ V.frozen? ⟨w.heap.size + 1 + 1, 2, none⟩ = false ∧ V.frozen? ⟨w.heap.size + 1 + 1, 3, none⟩ = false ∧ V.frozen? ⟨w.heap.size + 1 + 1, 4, none⟩ = false :=
  ⟨⟨block_cell h.b3 0, block_cell h.b3 1, block_cell h.b3 2, block_cell h.b3 3, block_cell h.b3 4, block_lt h.b3⟩, ⟨block_cell h.b2 0, block_cell h.b2 1, block_cell h.b2 2, block_cell h.b2 3, block_cell h.b2 4, block_lt h.b2⟩, block_free h.b2 0, block_free h.b2 1, block_free h.b2 2, block_free h.b2 3, block_free h.b2 4⟩
/-- The answer's box is written. -/
theorem Fo.fin {w : World} {mc : Array Value} {e : Jn} {t0 t1 : Value} {out : List Ac} {v : Value} {hs : List Ho} {u : Value} {V : World} (h : Fo w mc e t0 t1 out v hs u V) : ∀ u0 u1 u2 u3 u4 : Value, Hid ((((((V.setCell ⟨w.heap.size + 1 + 1, 0, none⟩ u0).setCell ⟨w.heap.size + 1 + 1, 1, none⟩ u1).setCell ⟨w.heap.size + 1 + 1, 2, none⟩ u2).setCell ⟨w.heap.size + 1 + 1, 3, none⟩ u3).setCell ⟨w.heap.size + 1 + 1, 4, none⟩ u4).ownsRow w.heap.size 81 4 v out.length (acells out) ∧ (((((V.setCell ⟨w.heap.size + 1 + 1, 0, none⟩ u0).setCell ⟨w.heap.size + 1 + 1, 1, none⟩ u1).setCell ⟨w.heap.size + 1 + 1, 2, none⟩ u2).setCell ⟨w.heap.size + 1 + 1, 3, none⟩ u3).setCell ⟨w.heap.size + 1 + 1, 4, none⟩ u4).ownsRow w.heap.size 84 3 u hs.length (hcells hs) ∧ Below w.heap.size w (((((V.setCell ⟨w.heap.size + 1 + 1, 0, none⟩ u0).setCell ⟨w.heap.size + 1 + 1, 1, none⟩ u1).setCell ⟨w.heap.size + 1 + 1, 2, none⟩ u2).setCell ⟨w.heap.size + 1 + 1, 3, none⟩ u3).setCell ⟨w.heap.size + 1 + 1, 4, none⟩ u4)) := fun u0 u1 u2 u3 u4 => by
  have hg := set5_g V (w.heap.size + 1 + 1) u0 u1 u2 u3 u4
  unfold set5 at hg
  exact ⟨row_lower (h.ra.kept hg (.inr (rowT_ne h.ra h.b2 (by decide)))) (by omega), row_lower (h.rh.kept hg (.inr (rowT_ne h.rh h.b2 (by decide)))) (by omega), h.bel.grown hg h.bel.size (fun j e => by cases e; omega)⟩
theorem own_form2 {w : World} {base n s : Nat} {t : TypeId} {v : Value} {xs : List Value} (h : w.ownsRow base t s v n xs) : ∃ ao cap, v = .slice ao n cap := by
  rcases h.2 with ⟨e3, e0⟩ | ⟨g3, cap, cur, e3, _⟩
  · exact ⟨none, 0, by rw [e3, e0]⟩
  · exact ⟨_, cap, e3⟩
end Go.Proofs.YtcfenjpdjogmdaaGreat
namespace Go.Proofs.YtcfenjpdjogmdaaGreat
open Go.RowKit

theorem foldl_take {α β : Type} (f : β → α → β) (b : β) {l : List α} {k : Nat} {x : α} (h : l[k]? = some x) : (l.take (k + 1)).foldl f b = f ((l.take k).foldl f b) x := by
  have e : l.take (k + 1) = l.take k ++ [x] := by rw [List.take_add_one, h]; rfl
  rw [e, List.foldl_append]
  rfl
end Go.Proofs.YtcfenjpdjogmdaaGreat
namespace Go.Proofs.YtcfenjpdjogmdaaGreat
open Go.RowKit

/-- A change that can be taken back. -/
inductive Bk where
  | A (x : Nat) (old : Option Ac)
  | H (x : Nat) (old : Option Ho)
  | J (k sq : Nat) (old : Jn)
/-- A closure that takes it back. -/
def Bk.Ok (W : World) (p a b : Nat) : Bk → Value → Prop
  | .A x old, v => x < 18446744073709551616 ∧ BackA W a x old v
  | .H x old, v => x < 18446744073709551616 ∧ BackH W b x old v
  | .J k sq old, v => k < 64 ∧ BackJ W p k sq old v
theorem Bk.Ok.one {W : World} {p a b : Nat} {d : Bk} {v : Value} (h : d.Ok W p a b v) : v.oneCell' = true := by
  cases d with
  | A x old => obtain ⟨f, ca, rfl⟩ := h.2.func; rfl
  | H x old => obtain ⟨f, ca, rfl⟩ := h.2.func; rfl
  | J k sq old => obtain ⟨_, _, _, _, _, _, _, _, rfl⟩ := h.2; rfl
/-- A ledger as maps. -/
structure MS where
  (tot acn : Nat)
  acf : Nat → Option Ac
  hon : Nat
  hof : Nat → Option Ho
  nx : Nat
  rg : Nat → Jn
def LS.ms (S : LS) : MS := ⟨S.tot, S.acc.length, byK Ac.id S.acc, S.hol.length, byK Ho.id S.hol, S.nx, S.rg⟩
def updO {α : Type} (f : Nat → Option α) (x : Nat) (o : Option α) : Nat → Option α := fun y => if y = x then o else f y
def cntO {α : Type} (n : Nat) (was new : Option α) : Nat := n + (if new.isSome = true then 1 else 0) - (if was.isSome = true then 1 else 0)
def Bk.undo (M : MS) : Bk → MS
  | .A x old => { M with acn := cntO M.acn (M.acf x) old, acf := updO M.acf x old }
  | .H x old => { M with hon := cntO M.hon (M.hof x) old, hof := updO M.hof x old }
  | .J k sq old => { M with nx := sq, rg := fun i => if i = k then old else M.rg i }
/-- All taken back, the last one first. -/
def undoAll (ds : List Bk) (M : MS) : MS := ds.foldr (fun d M => d.undo M) M
theorem undoAll_app (ds es : List Bk) (M : MS) : undoAll (ds ++ es) M = undoAll ds (undoAll es M) := by unfold undoAll; rw [List.foldr_append]
/-- The marks and changes of a ledger. -/
structure SZ where
  (mv cv : Value)
  ms : List Nat
  cs : List Bk
/-- What is no ledger's own stays: by the kinds of blocks. -/
structure Fl (W W' : World) : Prop where
  size : W.heap.size ≤ W'.heap.size
  at_ : ∀ (k : Nat) (cs : Array Value) (t : TypeId), W.heap[k]? = some (.cells cs t (0, 0)) → t ≠ 78 → t ≠ 3 → t ≠ 170 → W'.heap[k]? = some (.cells cs t (0, 0))
theorem Fl.refl (W : World) : Fl W W := ⟨Nat.le_refl _, fun _ _ _ h _ _ _ => h⟩
theorem Fl.trans {W W1 W2 : World} (h : Fl W W1) (h' : Fl W1 W2) : Fl W W2 := ⟨Nat.le_trans h.size h'.size, fun k cs t hk h1 h2 h3 => h'.at_ k cs t (h.at_ k cs t hk h1 h2 h3) h1 h2 h3⟩
theorem Fl.grown {W W' : World} {row : Option Nat} (hg : W.grownBy W' row) (hr : ∀ q, row = some q → ∀ cs t, W.heap[q]? = some (.cells cs t (0, 0)) → t = 78 ∨ t = 3 ∨ t = 170) : Fl W W' := by
  refine ⟨hg.size, fun k cs t hk h1 h2 h3 => ?_⟩
  rw [hg.block k (block_lt hk) (fun e => ?_)]
  · exact hk
  · rcases hr k e.symm cs t hk with e | e | e
    · exact h1 e
    · exact h2 e
    · exact h3 e
theorem Fl.below {W W' : World} (hb : Below W.heap.size W W') : Fl W W' := Fl.grown (below_none hb) (fun q e => by cases e)
theorem Bk.Ok.fl {W W' : World} {p a b : Nat} {d : Bk} {v : Value} (h : d.Ok W p a b v) (hf : Fl W W') : d.Ok W' p a b v := by
  cases d with
  | A x old =>
    obtain ⟨h0, q0, q1, h1, h2, ⟨y, q, h3, h4, h5⟩ | ⟨h3, h4⟩⟩ := h
    · exact ⟨h0, q0, q1, hf.at_ _ _ _ h1 (by decide) (by decide) (by decide), hf.at_ _ _ _ h2 (by decide) (by decide) (by decide), .inl ⟨y, q, h3, hf.at_ _ _ _ h4 (by decide) (by decide) (by decide), h5⟩⟩
    · exact ⟨h0, q0, q1, hf.at_ _ _ _ h1 (by decide) (by decide) (by decide), hf.at_ _ _ _ h2 (by decide) (by decide) (by decide), .inr ⟨h3, h4⟩⟩
  | H x old =>
    obtain ⟨h0, q0, q1, h1, h2, ⟨y, q, h3, h4, h5⟩ | ⟨h3, h4⟩⟩ := h
    · exact ⟨h0, q0, q1, hf.at_ _ _ _ h1 (by decide) (by decide) (by decide), hf.at_ _ _ _ h2 (by decide) (by decide) (by decide), .inl ⟨y, q, h3, hf.at_ _ _ _ h4 (by decide) (by decide) (by decide), h5⟩⟩
    · exact ⟨h0, q0, q1, hf.at_ _ _ _ h1 (by decide) (by decide) (by decide), hf.at_ _ _ _ h2 (by decide) (by decide) (by decide), .inr ⟨h3, h4⟩⟩
  | J k sq old =>
    obtain ⟨h0, q13, q11, q12, q5, h1, h2, h3, h4, h5⟩ := h
    exact ⟨h0, q13, q11, q12, q5, hf.at_ _ _ _ h1 (by decide) (by decide) (by decide), hf.at_ _ _ _ h2 (by decide) (by decide) (by decide), hf.at_ _ _ _ h3 (by decide) (by decide) (by decide), hf.at_ _ _ _ h4 (by decide) (by decide) (by decide), h5⟩
/-- A ledger as it lies, with its marks and changes; all of it at B or above. -/
structure LM (W : World) (B p a b : Nat) (Z : SZ) (S : LS) : Prop where
  lg : LG W p a b Z.mv Z.cv S
  mr : W.ownsRow B 3 1 Z.mv Z.ms.length (Z.ms.map (fun m => .int .i64 (m : Nat)))
  cr : ∃ xs, W.ownsRow B 170 1 Z.cv Z.cs.length xs ∧ ∀ (i : Nat) (d : Bk) (v : Value), Z.cs[i]? = some d → xs[i]? = some v → d.Ok W p a b v
  lo : B ≤ p ∧ B ≤ a ∧ B ≤ b
/-- The blocks of its rows are none of the ledger's others. -/
theorem LM.rows {W : World} {B p a b : Nat} {Z : SZ} {S : LS} (h : LM W B p a b Z S) : (∀ q, q = p ∨ q = a ∨ q = b → Z.mv.ownBlock ≠ some q ∧ Z.cv.ownBlock ≠ some q) ∧ (Z.cv.ownBlock = none ∨ Z.cv.ownBlock ≠ Z.mv.ownBlock) := by
  obtain ⟨xs, hc, _⟩ := h.cr
  refine ⟨fun q hq => ?_, rows2_ne h.mr hc (by decide)⟩
  obtain ⟨cs, h1, _⟩ := h.lg.blk
  obtain ⟨es, k, h2⟩ := h.lg.acc.obj
  obtain ⟨es', k', h3⟩ := h.lg.hol.obj
  have key : ∀ {t : TypeId} {n : Nat} {v : Value} {ys : List Value}, W.ownsRow B t 1 v n ys → t ≠ 78 → v.ownBlock ≠ some q := fun {t n v ys} hr ht e => by
    rcases hr.2 with ⟨rfl, _⟩ | ⟨g, cp, cur, rfl, _, hg, _⟩
    · cases e
    · cases e
      rcases hq with rfl | rfl | rfl
      · rw [h1] at hg; cases hg; exact ht rfl
      · rw [h2] at hg; cases hg
      · rw [h3] at hg; cases hg
  exact ⟨key h.mr (by decide), key hc (by decide)⟩
/-- Something turns that is none of its rows. -/
theorem LM.step {W W' : World} {B p a b : Nat} {Z : SZ} {S S' : LS} (h : LM W B p a b Z S) {row : Option Nat} (hg : W.grownBy W' row) (h1 : Z.mv.ownBlock = none ∨ Z.mv.ownBlock ≠ row) (h2 : Z.cv.ownBlock = none ∨ Z.cv.ownBlock ≠ row) (hf : Fl W W') (hL : LG W' p a b Z.mv Z.cv S') : LM W' B p a b Z S' := by
  obtain ⟨xs, hc, hd⟩ := h.cr
  have key : ∀ {t : TypeId} {n : Nat} {v : Value} {ys : List Value}, W.ownsRow B t 1 v n ys → (v.ownBlock = none ∨ v.ownBlock ≠ row) → W'.ownsRow B t 1 v n ys := fun {t n v ys} hr hn => by
    refine ⟨hr.1, ?_⟩
    rcases hr.2 with hr | ⟨g, cp, cur, rfl, q1, q2, q3⟩
    · exact .inl hr
    · refine .inr ⟨g, cp, cur, rfl, q1, (hg.block _ (block_lt q2) (fun e => ?_)).trans q2, q3⟩
      rcases hn with hn | hn
      · cases hn
      · exact hn e
  exact ⟨hL, key h.mr h1, ⟨xs, key hc h2, fun i d v hi hv => (hd i d v hi hv).fl hf⟩, h.lo⟩
theorem LM.kept {W W' : World} {B p a b : Nat} {Z : SZ} {S : LS} (h : LM W B p a b Z S) (hb : Below W.heap.size W W') : LM W' B p a b Z S :=
  h.step (below_none hb) (by cases e : Z.mv.ownBlock <;> simp) (by cases e : Z.cv.ownBlock <;> simp) (Fl.below hb) (h.lg.kept hb)
/-- While a call is going on: from world w0, where the ledger was S0, to world w, where it is S; ex: what is done and not yet noted. -/
structure RunX (B p a b : Nat) (w0 : World) (Z0 : SZ) (S0 : LS) (n : Nat) (ex : List Bk) (w : World) (S : LS) : Prop where
  z : ∃ Z ds, LM w B p a b Z S ∧ Z.mv = Z0.mv ∧ Z.ms = Z0.ms ∧ Z.cs = (if Z0.ms = [] then Z0.cs else Z0.cs ++ ds) ∧ ds.length ≤ n ∧ undoAll (ds ++ ex) S.ms = S0.ms ∧ (∀ k, Z.cv.ownBlock = some k → Z0.cv.ownBlock = some k ∨ w0.heap.size ≤ k)
  os : w.os = w0.os
  tape : w.tape = w0.tape
  output : w.output = w0.output
  size : w0.heap.size ≤ w.heap.size
  block : ∀ k, k < w0.heap.size → k ≠ p → k ≠ a → k ≠ b → Z0.mv.ownBlock ≠ some k → Z0.cv.ownBlock ≠ some k → w.heap[k]? = w0.heap[k]?
  fl : Fl w0 w
  z0 : Z0.cs.length ≤ 100000000000
abbrev Run (B p a b : Nat) (w0 : World) (Z0 : SZ) (S0 : LS) (n : Nat) (w : World) (S : LS) : Prop := RunX B p a b w0 Z0 S0 n [] w S
section
variable {B p a b : Nat} {w0 : World} {Z0 : SZ} {S0 : LS} {n m : Nat} {ex ex' : List Bk} {w w' : World} {S S' : LS}
theorem Run.start {Z : SZ} (h : LM w B p a b Z S) (hz : Z.cs.length ≤ 100000000000) : Run B p a b w Z S 0 w S :=
  ⟨⟨Z, [], h, rfl, rfl, by simp, Nat.le_refl _, rfl, fun k hk => .inl hk⟩, rfl, rfl, rfl, Nat.le_refl _, fun _ _ _ _ _ _ _ => rfl, Fl.refl _, hz⟩
theorem RunX.le (h : RunX B p a b w0 Z0 S0 n ex w S) (hm : n ≤ m) : RunX B p a b w0 Z0 S0 m ex w S := by
  obtain ⟨Z, ds, h1, h2, h3, h4, h5, h6, h7⟩ := h.z
  exact ⟨⟨Z, ds, h1, h2, h3, h4, by omega, h6, h7⟩, h.os, h.tape, h.output, h.size, h.block, h.fl, h.z0⟩
theorem RunX.lg (h : RunX B p a b w0 Z0 S0 n ex w S) : ∃ mk ch, LG w p a b mk ch S := by
  obtain ⟨Z, ds, h1, _⟩ := h.z
  exact ⟨_, _, h1.lg⟩
/-- The ledger's own, or nothing, turns. -/
theorem RunX.step (h : RunX B p a b w0 Z0 S0 n ex w S) {row : Option Nat} (hg : w.grownBy w' row) (hr : ∀ q, row = some q → q = p ∨ q = a ∨ q = b) (hL : ∀ mk ch, LG w p a b mk ch S → LG w' p a b mk ch S') (hu : undoAll ex' S'.ms = undoAll ex S.ms) : RunX B p a b w0 Z0 S0 n ex' w' S' ∧ Fl w w' := by
  obtain ⟨Z, ds, h1, h2, h3, h4, h5, h6, h7⟩ := h.z
  have hrow := h1.rows.1
  obtain ⟨cs, g1, _⟩ := h1.lg.blk
  obtain ⟨es, k, g2⟩ := h1.lg.acc.obj
  obtain ⟨es', k', g3⟩ := h1.lg.hol.obj
  have hf : Fl w w' := Fl.grown hg (fun q e cs' t hq => by
    rcases hr q e with rfl | rfl | rfl
    · rw [g1] at hq; cases hq; exact .inl rfl
    · rw [g2] at hq; cases hq
    · rw [g3] at hq; cases hq)
  have ne : (Z.mv.ownBlock = none ∨ Z.mv.ownBlock ≠ row) ∧ (Z.cv.ownBlock = none ∨ Z.cv.ownBlock ≠ row) := by
    cases row with
    | none => exact ⟨by cases e : Z.mv.ownBlock <;> simp, by cases e : Z.cv.ownBlock <;> simp⟩
    | some q => exact ⟨.inr (hrow q (hr q rfl)).1, .inr (hrow q (hr q rfl)).2⟩
  refine ⟨⟨⟨Z, ds, h1.step hg ne.1 ne.2 hf (hL _ _ h1.lg), h2, h3, h4, h5, ?_, h7⟩, hg.os.trans h.os, hg.tape.trans h.tape, hg.output.trans h.output, Nat.le_trans h.size hg.size, fun k hk n1 n2 n3 n4 n5 => (hg.block k (Nat.lt_of_lt_of_le hk h.size) (fun e => ?_)).trans (h.block k hk n1 n2 n3 n4 n5), h.fl.trans hf, h.z0⟩, hf⟩
  · rw [undoAll_app] at h6 ⊢
    rw [hu]
    exact h6
  · rcases hr k e.symm with e | e | e
    · exact n1 e
    · exact n2 e
    · exact n3 e
theorem RunX.kept (h : RunX B p a b w0 Z0 S0 n ex w S) (hb : Below w.heap.size w w') : RunX B p a b w0 Z0 S0 n ex w' S :=
  (h.step (below_none hb) (fun q e => by cases e) (fun mk ch hl => hl.kept hb) rfl).1
end
theorem infoChg : (Tryz.prog.info? 170).map (fun i => (i.zero, i.size, i.bytes)) = some (some (.agg #[.nilFunc]), 1, 8) := by kernel_rfl
theorem Fl.bel {W W' : World} {q : Nat} {t : TypeId} {cs : Array Value} (h : W.grownBy W' (some q)) (hq : W.heap[q]? = some (.cells cs t (0, 0))) (ht : t = 78 ∨ t = 3 ∨ t = 170) : Fl W W' := Fl.grown h (fun q' e cs' t' hq' => by
  cases e
  rw [hq] at hq'
  cases hq'
  exact ht)
end Go.Proofs.YtcfenjpdjogmdaaGreat
