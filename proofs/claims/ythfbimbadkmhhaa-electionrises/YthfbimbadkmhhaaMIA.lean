import Derived.Test.YthfbimbadkmhhaaMGL
namespace Go.Proofs.Ythfbimbadkmhhaa
open Go.RowKit Crc

theorem rcells_get : ∀ (rs : List Rq) (q t : Nat), t < 3 → (rcells rs)[q * 3 + t]? = (rs[q]?).bind (fun r => r.cells[t]?)
  | [], q, t, _ => by simp [rcells]
  | x :: r, 0, t, h => by
    simp only [rcells, List.map_cons, List.flatten_cons]
    rw [List.getElem?_append_left (by simp [Rq.cells]; omega)]
    simp
  | x :: r, q + 1, t, h => by
    have ih := rcells_get r q t h
    simp only [rcells, List.map_cons, List.flatten_cons] at *
    rw [List.getElem?_append_right (by simp [Rq.cells]; omega)]
    have e : (q + 1) * 3 + t - x.cells.toList.length = q * 3 + t := by simp [Rq.cells]; omega
    rw [e, ih]
    simp
theorem rcells_set (rs : List Rq) (i : Nat) (r : Rq) (hi : i < rs.length) : rcells (rs.set i r) = (((rcells rs).set (i * 3) (.int .u64 (r.cl : Int))).set (i * 3 + 1) (.int .u64 (r.sq : Int))).set (i * 3 + 2) (.slice r.co r.cn r.cc) := by
  apply List.ext_getElem?
  intro p
  obtain ⟨q, t, ht, rfl⟩ : ∃ q t, t < 3 ∧ p = q * 3 + t := ⟨p / 3, p % 3, Nat.mod_lt _ (by decide), by omega⟩
  have hl := rcells_len rs
  rw [rcells_get _ _ _ ht]
  simp only [List.getElem?_set, List.length_set, hl]
  by_cases hq : i = q
  · subst hq
    rw [if_pos rfl, if_pos hi]
    rcases (by omega : t = 0 ∨ t = 1 ∨ t = 2) with rfl | rfl | rfl
    · rw [if_neg (by omega), if_neg (by omega), if_pos (by omega), if_pos (by omega)]; rfl
    · rw [if_neg (by omega), if_pos (by omega), if_pos (by omega)]; rfl
    · rw [if_pos (by omega), if_pos (by omega)]; rfl
  · rw [if_neg hq, if_neg (by omega), if_neg (by omega), if_neg (by omega), rcells_get _ _ _ ht]
theorem row_parts {w : World} {base b n m rc : Nat} {xs : List Value} (h : w.ownsRow base 37 3 (.slice (some ⟨b, 0, none⟩) n rc) m xs) : ∃ cur : Array Value, w.heap[b]? = some (.cells cur 37 (0, 0)) ∧ cur.size = rc * 3 ∧ n ≤ rc ∧ rc ≤ maxLen ∧ base ≤ b ∧ m = n ∧ cur.toList.take (n * 3) = xs := by
  rcases h.2 with ⟨e, _⟩ | ⟨g, cap, cur, e, hb, hg, h4, h5, h6, h7⟩
  · cases e
  · simp only [Value.slice.injEq, Option.some.injEq, Addr.mk.injEq] at e
    obtain ⟨⟨rfl, _⟩, rfl, rfl⟩ := e
    exact ⟨cur, hg, h6, h4, h5, hb, rfl, h7⟩
theorem row_set3 {w : World} {base b n rc : Nat} {rs : List Rq} (h : w.ownsRow base 37 3 (.slice (some ⟨b, 0, none⟩) n rc) n (rcells rs)) (hl : rs.length = n) {i : Nat} (hi : i < n) (r : Rq) :
    (((w.setCell ⟨b, i * 3, none⟩ (.int .u64 (r.cl : Int))).setCell ⟨b, i * 3 + 1, none⟩ (.int .u64 (r.sq : Int))).setCell ⟨b, i * 3 + 2, none⟩ (.slice r.co r.cn r.cc)).ownsRow base 37 3 (.slice (some ⟨b, 0, none⟩) n rc) n (rcells (rs.set i r)) := by
  obtain ⟨cur, hg, h6, h4, h5, hb, _, h7⟩ := row_parts h
  refine ⟨by rw [rcells_len]; simp [hl], .inr ⟨b, rc, _, rfl, hb, heap_setCell_same _ b _ _ _ _ (heap_setCell_same _ b _ _ _ _ (heap_setCell_same w b _ _ _ _ hg)), h4, h5, by simpa using h6, ?_⟩⟩
  rw [rcells_set rs i r (by omega), ← h7]
  simp only [Array.toList_setIfInBounds, List.take_set]
theorem row_read {w : World} {base b n rc : Nat} {rs : List Rq} (h : w.ownsRow base 37 3 (.slice (some ⟨b, 0, none⟩) n rc) n (rcells rs)) (hl : rs.length = n) {i : Nat} {r : Rq} (hi : rs[i]? = some r) :
    w.cell? ⟨b, i * 3, none⟩ = some (.int .u64 (r.cl : Int)) ∧ w.cell? ⟨b, i * 3 + 1, none⟩ = some (.int .u64 (r.sq : Int)) ∧ w.cell? ⟨b, i * 3 + 2, none⟩ = some (.slice r.co r.cn r.cc) ∧ b < w.heap.size ∧ ∀ j, w.frozen? ⟨b, j, none⟩ = false := by
  obtain ⟨cur, hg, h6, h4, h5, hb, _, h7⟩ := row_parts h
  have hin : i < n := by rw [← hl]; exact (List.getElem?_eq_some_iff.1 hi).1
  have hc : ∀ t v, t < 3 → r.cells[t]? = some v → w.cell? ⟨b, i * 3 + t, none⟩ = some v := fun t v ht hv => by
    have h1 := rcells_get rs i t ht
    rw [hi, ← h7, List.getElem?_take, if_pos (by omega)] at h1
    rw [block_cell hg]
    rw [Array.getElem?_toList] at h1
    rw [h1]
    exact hv
  exact ⟨hc 0 _ (by decide) rfl, hc 1 _ (by decide) rfl, hc 2 _ (by decide) rfl, block_lt hg, fun j => block_free hg j⟩
theorem fe_set3 (w : World) (b i j k : Nat) (x y z : Value) : Fe w (((w.setCell ⟨b, i, none⟩ x).setCell ⟨b, j, none⟩ y).setCell ⟨b, k, none⟩ z) (fun q => q = b) :=
  ((Fe.grown (grown_set _ b i _) (T := fun q => q = b) (fun y e => by cases e; rfl)).trans (Fe.grown (grown_set _ b j _) (T := fun q => q = b) (fun y e => by cases e; rfl)) (fun _ _ e => e)).trans (Fe.grown (grown_set _ b k _) (T := fun q => q = b) (fun y e => by cases e; rfl)) (fun _ _ e => e)
/-- Amid a deletion: the first i are kept of the first j. -/
structure Dl (w : World) (b n rc : Nat) (rs : List Rq) (f : Rq → Bool) (i j : Nat) (wr : World) : Prop where
  ij : i < j
  jn : j ≤ n
  fe : Fe w wr (fun q => q = b)
  row : ∃ rs1 : List Rq, rs1.length = n ∧ wr.ownsRow 0 37 3 (.slice (some ⟨b, 0, none⟩) n rc) n (rcells rs1) ∧ rs1.take i = (rs.take j).filter (fun r => !f r) ∧ rs1.drop j = rs.drop j ∧ ∀ r ∈ rs1, r ∈ rs
theorem Dl.at {w : World} {b n rc : Nat} {rs : List Rq} {f : Rq → Bool} {i j : Nat} {wr : World} (h : Dl w b n rc rs f i j wr) (hl : rs.length = n) (hj : j < n) : ∃ r, rs[j]? = some r ∧ wr.cell? ⟨b, j * 3, none⟩ = some (.int .u64 (r.cl : Int)) ∧ wr.cell? ⟨b, j * 3 + 1, none⟩ = some (.int .u64 (r.sq : Int)) ∧ wr.cell? ⟨b, j * 3 + 2, none⟩ = some (.slice r.co r.cn r.cc) ∧ b < wr.heap.size := by
  obtain ⟨rs1, h1, h2, h3, h4, h5⟩ := h.row
  have hr : rs[j]? = some (rs[j]'(by omega)) := List.getElem?_eq_getElem (by omega)
  have hr1 : rs1[j]? = some (rs[j]'(by omega)) := by
    have := congrArg (fun l => l[0]?) h4
    simp only [List.getElem?_drop, Nat.add_zero] at this
    rw [this, hr]
  obtain ⟨c0, c1, c2, c3, _⟩ := row_read h2 h1 hr1
  exact ⟨_, hr, c0, c1, c2, c3⟩
theorem Dl.wr {w : World} {b n rc : Nat} {rs : List Rq} {f : Rq → Bool} {i j : Nat} {wr V : World} (h : Dl w b n rc rs f i j wr) (hb : Below wr.heap.size wr V) : (∃ u0 u1 u2, V.cell? ⟨b, i * 3, none⟩ = some u0 ∧ V.cell? ⟨b, i * 3 + 1, none⟩ = some u1 ∧ V.cell? ⟨b, i * 3 + 2, none⟩ = some u2) ∧ b < V.heap.size ∧ ∀ k, V.frozen? ⟨b, k, none⟩ = false := by
  obtain ⟨rs1, h1, h2, h3, h4, h5⟩ := h.row
  have h2' := row_fe h2 (Fe.below hb (fun _ => False)) (fun _ _ e => e)
  have hi : i < rs1.length := by have := h.ij; have := h.jn; omega
  obtain ⟨c0, c1, c2, c3, c4⟩ := row_read h2' h1 (List.getElem?_eq_getElem hi)
  exact ⟨⟨_, _, _, c0, c1, c2⟩, c3, c4⟩
theorem Dl.skip {w : World} {b n rc : Nat} {rs : List Rq} {f : Rq → Bool} {i j : Nat} {wr V : World} (h : Dl w b n rc rs f i j wr) (hj : j < n) (hb : Below wr.heap.size wr V) {r : Rq} (hr : rs[j]? = some r) (hf : f r = true) : Dl w b n rc rs f i (j + 1) V := by
  obtain ⟨rs1, h1, h2, h3, h4, h5⟩ := h.row
  refine ⟨by have := h.ij; omega, hj, h.fe.trans (Fe.below hb _) (fun _ _ e => e), rs1, h1, row_fe h2 (Fe.below hb (fun _ => False)) (fun _ _ e => e), ?_, ?_, h5⟩
  · rw [h3, List.take_add_one, hr]
    simp [hf]
  · rw [← List.drop_drop, ← List.drop_drop, h4]
theorem Dl.keep {w : World} {b n rc : Nat} {rs : List Rq} {f : Rq → Bool} {i j : Nat} {wr V : World} (h : Dl w b n rc rs f i j wr) (hj : j < n) (hb : Below wr.heap.size wr V) {r : Rq} (hr : rs[j]? = some r) (hf : f r = false) :
    Dl w b n rc rs f (i + 1) (j + 1) (((V.setCell ⟨b, i * 3, none⟩ (.int .u64 (r.cl : Int))).setCell ⟨b, i * 3 + 1, none⟩ (.int .u64 (r.sq : Int))).setCell ⟨b, i * 3 + 2, none⟩ (.slice r.co r.cn r.cc)) := by
  obtain ⟨rs1, h1, h2, h3, h4, h5⟩ := h.row
  have hij := h.ij
  have h2' := row_fe h2 (Fe.below hb (fun _ => False)) (fun _ _ e => e)
  refine ⟨by omega, hj, (h.fe.trans (Fe.below hb _) (fun _ _ e => e)).trans (fe_set3 V b _ _ _ _ _ _) (fun _ _ e => e), rs1.set i r, by simp [h1], row_set3 h2' h1 (by omega) r, ?_, ?_, ?_⟩
  · rw [List.take_add_one, List.take_add_one, hr, List.getElem?_set_self (by omega), List.take_set_of_le (by omega), h3]
    simp [hf]
  · rw [List.drop_set_of_lt (by omega), ← List.drop_drop, ← List.drop_drop, h4]
  · intro y hy
    rcases List.mem_or_eq_of_mem_set hy with hy | rfl
    · exact h5 y hy
    · exact List.mem_of_getElem? hr
end Go.Proofs.Ythfbimbadkmhhaa
