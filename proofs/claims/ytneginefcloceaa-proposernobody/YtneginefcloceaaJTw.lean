import Derived.Test.YtneginefcloceaaJDef
import Derived.Test.YtneginefcloceaaPExt
import Derived.RangeFuncBox
namespace Go.Proofs.Ytneginefcloceaa
open Go.RowKit Crc

theorem append_none_run (a b : Option Addr) (n c m : Nat) (hn : n ≤ c) (w : World) : (Builtin.append_ #[54, 54] 54 #[.slice a n c, .slice b 0 m]).run Try.prog w = .ok (.slice a n c) w := by
  obtain ⟨i0, hi, hz0, hz1, hz2⟩ := info_parts Try.info5
  cases a <;> cases b <;> simp [Builtin.append_, run_underlying Try.underlying54, sizeOf, typeInfo, hi, storeCells, go_sem, hn]
theorem infoReq : (Try.prog.info? 64).map (fun i => (i.zero, i.size, i.bytes)) = some (some (.agg #[.int .u64 0, .int .u64 0, .slice none 0 0]), 3, 40) := by kernel_rfl
def rcells (rs : List Rq) : List Value := (rs.map fun r => r.cells.toList).flatten
theorem rcells_snoc (rs : List Rq) (r : Rq) : rcells (rs ++ [r]) = rcells rs ++ [.int .u64 (r.cl : Int), .int .u64 (r.sq : Int), .slice r.co r.cn r.cc] := by simp [rcells, Rq.cells]
theorem rcells_len : ∀ rs : List Rq, (rcells rs).length = rs.length * 3
  | [] => rfl
  | r :: t => by
    have := rcells_len t
    simp only [rcells, List.map_cons, List.flatten_cons, List.length_append, List.length_cons] at this ⊢
    rw [this]
    simp [Rq.cells]
    omega
theorem rcells_at : ∀ (rs : List Rq) (i : Nat) (r : Rq), rs[i]? = some r → ∀ j v, r.cells[j]? = some v → (rcells rs)[i * 3 + j]? = some v
  | [], i, r, h, _, _, _ => by simp at h
  | x :: t, 0, r, h, j, v, hv => by
    simp at h
    subst h
    have hj : j < 3 := by
      have := (Array.getElem?_eq_some_iff.1 hv).1
      simpa [Rq.cells] using this
    simp only [rcells, List.map_cons, List.flatten_cons]
    rw [List.getElem?_append_left (by simp [Rq.cells]; omega)]
    rw [Nat.zero_mul, Nat.zero_add, ← Array.getElem?_toList] at *
    exact hv
  | x :: t, i + 1, r, h, j, v, hv => by
    have := rcells_at t i r (by simpa using h) j v hv
    simp only [rcells, List.map_cons, List.flatten_cons] at *
    rw [List.getElem?_append_right (by simp [Rq.cells]; omega)]
    have e : (i + 1) * 3 + j - x.cells.toList.length = i * 3 + j := by simp [Rq.cells]; omega
    rw [e]
    exact this
theorem row_quiet {base size k : Nat} {e : TypeId} {w w' : World} {v : Value} {xs : List Value} (h : w.ownsRow base e size v k xs) (hg : w.grownBy w' none) : w'.ownsRow base e size v k xs := by
  refine h.kept hg ?_
  cases v.ownBlock with
  | none => exact .inl rfl
  | some g => exact .inr (by simp)
/-- Two rows of unlike types. -/
theorem rows_ne {b1 b2 k1 k2 s1 s2 : Nat} {e1 e2 : TypeId} {w : World} {v1 v2 : Value} {x1 x2 : List Value} (h1 : w.ownsRow b1 e1 s1 v1 k1 x1) (h2 : w.ownsRow b2 e2 s2 v2 k2 x2) (he : e1 ≠ e2) : v1.ownBlock = none ∨ v1.ownBlock ≠ v2.ownBlock := by
  rcases h1.2 with ⟨rfl, _⟩ | ⟨g1, c1, u1, rfl, _, g1h, _⟩
  · exact .inl rfl
  · rcases h2.2 with ⟨rfl, _⟩ | ⟨g2, c2, u2, rfl, _, g2h, _⟩
    · right; simp [Value.ownBlock]
    · right
      intro e
      cases e
      rw [g1h] at g2h
      cases g2h
      exact he rfl
/-- A row and a box of another type. -/
theorem row_box {b1 k1 s1 B : Nat} {e1 t : TypeId} {w : World} {v1 : Value} {x1 : List Value} {cs : Array Value} (h1 : w.ownsRow b1 e1 s1 v1 k1 x1) (hb : w.heap[B]? = some (.cells cs t (0, 0))) (he : e1 ≠ t) : v1.ownBlock ≠ some B := by
  rcases h1.2 with ⟨rfl, _⟩ | ⟨g1, c1, u1, rfl, _, g1h, _⟩
  · simp [Value.ownBlock]
  · intro e
    cases e
    rw [g1h] at hb
    cases hb
    exact he rfl

/-- A copied request: its command is its own. -/
structure Cq (base : Nat) (w : World) (r : Rq) : Prop where
  hc : r.cl < 18446744073709551616
  hs : r.sq < 18446744073709551616
  ow : Owns base w (.slice r.co r.cn r.cc) r.C
  hl : r.cn = r.C.length
theorem Cq.ok {base : Nat} {w : World} {r : Rq} (h : Cq base w r) : r.Ok w.heap.size w := by
  obtain ⟨hc, hs, ow, hl⟩ := h
  obtain ⟨cl, sq, co, cn, cc, C⟩ := r
  simp only at hl ow
  subst hl
  obtain ⟨ao, cap, e, hs', _⟩ := ow.form
  cases e
  exact ⟨hc, hs, hs'⟩
theorem Cq.next {base : Nat} {w w' : World} {r : Rq} {row : Option Nat} (h : Cq base w r) (hg : w.grownBy w' row) (hne : (Value.slice r.co r.cn r.cc).ownBlock = none ∨ (Value.slice r.co r.cn r.cc).ownBlock ≠ row) : Cq base w' r := ⟨h.hc, h.hs, h.ow.kept hg hne, h.hl⟩
theorem Cq.quiet {base : Nat} {w w' : World} {r : Rq} (h : Cq base w r) (hg : w.grownBy w' none) : Cq base w' r := ⟨h.hc, h.hs, h.ow.quiet hg, h.hl⟩
/-- Between two rounds. -/
structure Tw (w W2 : World) (rs : List Rq) (k : Nat) (v : Value) (rs1 : List Rq) (wr : World) : Prop where
  bel : Below W2.heap.size W2 wr
  row : wr.ownsRow W2.heap.size 64 3 v k (rcells rs1)
  len : rs1.length = k
  val : rs1.map Rq.val = (rs.take k).map Rq.val
  cq : ∀ r ∈ rs1, Cq W2.heap.size wr r
theorem Tw.next {w W2 : World} {rs : List Rq} {k : Nat} {v v' : Value} {rs1 : List Rq} {wr w1 w2 : World} {r r1 : Rq} {cs : Array Value} {x : Value} {o1 o2 : Obj}
    (h : Tw w W2 rs k v rs1 wr) (hr : rs[k]? = some r) (g1 : (wr.alloc o1).grownBy w1 none) (hq : w1.heap[wr.heap.size]? = some (.cells cs 64 (0, 0)))
    (hc : Cq W2.heap.size w1 r1) (hv : r1.val = r.val)
    (ho : w2.ownsRow W2.heap.size 64 3 v' (k + 1) (rcells (rs1 ++ [r1]))) (hg : ((w1.setCell ⟨wr.heap.size, 2, none⟩ x).alloc o2).grownBy w2 v.ownBlock) :
    Tw w W2 rs (k + 1) v' (rs1 ++ [r1]) w2 := by
  have hs := h.bel.size
  have g01 : wr.grownBy w1 none := grown_trans (World.grownBy_alloc wr o1 none) g1
  have row1 := row_quiet h.row g01
  have hvq : v.ownBlock ≠ some wr.heap.size := fun e => by have := (h.row.lt _ e).2; omega
  have cq1 : ∀ y ∈ rs1 ++ [r1], Cq W2.heap.size w1 y := fun y hy => by
    rcases List.mem_append.1 hy with hy | hy
    · exact (h.cq y hy).quiet g01
    · simp at hy; subst hy; exact hc
  have row2 := row1.kept (grown_set w1 wr.heap.size 2 x) (.inr hvq)
  have cq2 : ∀ y ∈ rs1 ++ [r1], Cq W2.heap.size (w1.setCell ⟨wr.heap.size, 2, none⟩ x) y := fun y hy => (cq1 y hy).next (grown_set w1 wr.heap.size 2 x) (.inr (row_box (cq1 y hy).ow.1 hq (by decide)))
  have hgA := World.grownBy_alloc (w1.setCell ⟨wr.heap.size, 2, none⟩ x) o2 none
  have row3 := row_quiet row2 hgA
  have cq3 : ∀ y ∈ rs1 ++ [r1], Cq W2.heap.size ((w1.setCell ⟨wr.heap.size, 2, none⟩ x).alloc o2) y := fun y hy => (cq2 y hy).quiet hgA
  refine ⟨?_, ho, by simp [h.len], ?_, fun y hy => (cq3 y hy).next hg (rows_ne (cq3 y hy).ow.1 row3 (by decide))⟩
  · have b1 : Below W2.heap.size W2 w1 := h.bel.grown g01 hs (fun k e => by cases e)
    have b2 := b1.setCell (p := ⟨wr.heap.size, 2, none⟩) (by simpa using hs) x
    have b3 := b2.grown hgA b2.size (fun k e => by cases e)
    exact b3.grown hg b3.size (fun k e => (row3.lt k e).1)
  · rw [List.map_append, h.val, List.take_add_one, hr]
    simp [hv]
/-- What is told as a batch. -/
def BtOk (w : World) (st : Nat) (v : Value) (rv : List (Nat × Nat × List Nat)) : Prop := ∃ ro rc rs b off, v = .slice ro rs.length rc ∧ rs.map Rq.val = rv ∧ Rqs w.heap.size w ro rs b off ∧ st < 18446744073709551616
/-- The same, of whatever world keeps the cells of the blocks from lo to hi. -/
def BtOn (lo hi : Nat) (w : World) (st : Nat) (v : Value) (rv : List (Nat × Nat × List Nat)) : Prop := ∀ w', w.heap.size ≤ w'.heap.size → (∀ (q j : Nat) (u : Value), lo ≤ q → q < hi → w.cell? ⟨q, j, none⟩ = some u → w'.cell? ⟨q, j, none⟩ = some u) → BtOk w' st v rv
theorem BtOn.ok {lo hi : Nat} {w : World} {st : Nat} {v : Value} {rv : List (Nat × Nat × List Nat)} (h : BtOn lo hi w st v rv) : BtOk w st v rv := h w (Nat.le_refl _) (fun _ _ _ _ _ e => e)
theorem BtOn.next {lo hi : Nat} {w w2 : World} {st : Nat} {v : Value} {rv : List (Nat × Nat × List Nat)} (h : BtOn lo hi w st v rv) (hs : w.heap.size ≤ w2.heap.size) (hk : ∀ (q j : Nat) (u : Value), lo ≤ q → q < hi → w.cell? ⟨q, j, none⟩ = some u → w2.cell? ⟨q, j, none⟩ = some u) : BtOn lo hi w2 st v rv := fun w' hs' hk' => h w' (Nat.le_trans hs hs') (fun q j u h1 h2 h3 => hk' q j u h1 h2 (hk q j u h1 h2 h3))
theorem BtOk.kept {w w' : World} {st : Nat} {v : Value} {rv : List (Nat × Nat × List Nat)} (h : BtOk w st v rv) (hb : Below w.heap.size w w') : BtOk w' st v rv := by
  obtain ⟨ro, rc, rs, b, off, h1, h2, h3, h4⟩ := h
  exact ⟨ro, rc, rs, b, off, h1, h2, (h3.below hb).wide hb.size, h4⟩
theorem BtOk.odd {w w' : World} {st q : Nat} {v : Value} {rv : List (Nat × Nat × List Nat)} (h : BtOk w st v rv) (hg : w.grownBy w' (some q)) (ho : Odd w q) : BtOk w' st v rv := by
  obtain ⟨ro, rc, rs, b, off, h1, h2, h3, h4⟩ := h
  exact ⟨ro, rc, rs, b, off, h1, h2, (h3.odd hg ho).wide hg.size, h4⟩
theorem Tw.form {w W2 : World} {rs : List Rq} {k : Nat} {v : Value} {rs1 : List Rq} {wr : World} (h : Tw w W2 rs k v rs1 wr) (hle : k ≤ 3518437208883) : ∃ ao cap b, v = .slice ao rs1.length cap ∧ Rqs wr.heap.size wr ao rs1 b 0 := by
  have hl := h.len
  rcases h.row.2 with ⟨rfl, h0⟩ | ⟨g, cap, cur, rfl, hbg, hg, hnc, hcm, hcs, htake⟩
  · have : rs1 = [] := List.eq_nil_of_length_eq_zero (by omega)
    subst this
    exact ⟨none, 0, 0, rfl, Rqs.nil _ _ _⟩
  · refine ⟨some ⟨g, 0, none⟩, cap, g, by rw [hl], fun _ => rfl, fun _ => block_lt hg, by omega, fun i r hr j v hv => ?_, fun r hr => (h.cq r hr).ok⟩
    have h1 := rcells_at rs1 i r hr j v hv
    have hlt : i * 3 + j < k * 3 := by rw [← hl, ← rcells_len]; exact (List.getElem?_eq_some_iff.1 h1).1
    rw [← htake, List.getElem?_take, if_pos hlt] at h1
    have h2 := cell_of_row wr g (0 + i * 3 + j) cur _ (0, 0) hg
    rw [h2, Nat.zero_add]
    simpa using h1
/-- What lies in the new row and in the commands' own blocks is there still. -/
theorem Tw.turned {w W2 : World} {rs : List Rq} {k : Nat} {ao : Option Addr} {cap : Nat} {rs1 : List Rq} {wr w' : World} {b : Nat} (h : Tw w W2 rs k (.slice ao rs1.length cap) rs1 wr) (hR : Rqs wr.heap.size wr ao rs1 b 0) (_ : k ≤ 3518437208883)
    (hc : ∀ (q j : Nat) (v : Value), W2.heap.size ≤ q → wr.cell? ⟨q, j, none⟩ = some v → w'.cell? ⟨q, j, none⟩ = some v) (hs : wr.heap.size ≤ w'.heap.size) : Rqs w'.heap.size w' ao rs1 b 0 := by
  refine ⟨hR.ad, fun e => Nat.lt_of_lt_of_le (hR.lt e) hs, hR.le, fun i r hr j v hv => ?_, fun r hr => ?_⟩
  · refine hc b _ v ?_ (hR.at_ i r hr j v hv)
    have hpos : 0 < rs1.length := by have := (List.getElem?_eq_some_iff.1 hr).1; omega
    have e := hR.ad hpos
    subst e
    exact (h.row.lt b (by simp [Value.ownBlock])).1
  · have q := h.cq r hr
    obtain ⟨cl, sq, co, cn, cc, C⟩ := r
    obtain ⟨s1, s2, s3, s4, cb, coff, s5, s6, s7⟩ := q.ok.hC
    simp only at s1 s2 s3 s4 s5 s6 s7
    refine ⟨q.hc, q.hs, s1, s2, s3, s4, cb, coff, s5, fun e => Nat.lt_of_lt_of_le (s6 e) hs, fun i hi => hc cb _ _ ?_ (s7 i hi)⟩
    have hi' : i < cn := hi
    have e := s5 (by omega)
    subst e
    have hw := q.ow.1
    rcases hw.2 with ⟨h0, _⟩ | ⟨g, cap', cur, h0, hbg, _⟩
    · cases h0
    · have e : cb = g := by simp only [Value.slice.injEq, Option.some.injEq, Addr.mk.injEq] at h0; exact h0.1.1
      rw [e]
      exact hbg
theorem cell_req_new (W : World) (x y z : Value) (t : TypeId) : ∀ (j : Nat) (u : Value), [x, y, z][j]? = some u → (W.alloc (.cells #[x, y, z] t)).cell? (Addr.add ⟨W.heap.size, 0, none⟩ j) = some u := by
  intro j u hu
  have := World.cell?_alloc_new W #[x, y, z] t j
  have he : Addr.add ⟨W.heap.size, 0, none⟩ j = ⟨W.heap.size, j, none⟩ := by
    simp only [Addr.add]
    split <;> simp_all
  rw [he, this]
  simpa using hu
end Go.Proofs.Ytneginefcloceaa
