import Derived.Test.YtojknconkmplkaaMI
import Derived.Test.YtojknconkmplkaaMA
import Derived.RangeFuncBox
namespace Go.Proofs.Ytojknconkmplkaa
open Go.RowKit Crc

theorem append_none_run (a b : Option Addr) (n c m : Nat) (hn : n ≤ c) (w : World) : (Builtin.append_ #[45, 45] 45 #[.slice a n c, .slice b 0 m]).run Try.prog w = .ok (.slice a n c) w := by
  obtain ⟨i0, hi, hz0, hz1, hz2⟩ := info_parts Try.info5
  cases a <;> cases b <;> simp [Builtin.append_, run_underlying Try.underlying45, sizeOf, typeInfo, hi, storeCells, go_sem, hn]
theorem infoReq : (Try.prog.info? 65).map (fun i => (i.zero, i.size, i.bytes)) = some (some (.agg #[.int .u64 0, .int .u64 0, .slice none 0 0]), 3, 40) := by kernel_rfl
def rcells (rs : List Rq) : List Value := (rs.map fun r => r.cells.toList).flatten
theorem rcells_snoc (rs : List Rq) (r : Rq) : rcells (rs ++ [r]) = rcells rs ++ [.int .u64 (r.cl : Int), .int .u64 (r.sq : Int), .slice r.co r.cn r.cc] := by simp [rcells, Rq.cells]
theorem rcells_len : ∀ rs : List Rq, (rcells rs).length = rs.length * 3
  | [] => rfl
  | r :: t => by
    have := rcells_len t
    simp only [rcells, List.map_cons, List.flatten_cons, List.length_append, List.length_cons] at this ⊢
    rw [this]
    simp [Rq.cells]
    omega
theorem rcells_at : ∀ (rs : List Rq) (i : Nat) (r : Rq), rs[i]? = some r → ∀ j v, r.cells[j]? = some v → (rcells rs)[i * 3 + j]? = some v
  | [], i, r, h, _, _, _ => by simp at h
  | x :: t, 0, r, h, j, v, hv => by
    simp at h
    subst h
    have hj : j < 3 := by
      have := (Array.getElem?_eq_some_iff.1 hv).1
      simpa [Rq.cells] using this
    simp only [rcells, List.map_cons, List.flatten_cons]
    rw [List.getElem?_append_left (by simp [Rq.cells]; omega)]
    rw [Nat.zero_mul, Nat.zero_add, ← Array.getElem?_toList] at *
    exact hv
  | x :: t, i + 1, r, h, j, v, hv => by
    have := rcells_at t i r (by simpa using h) j v hv
    simp only [rcells, List.map_cons, List.flatten_cons] at *
    rw [List.getElem?_append_right (by simp [Rq.cells]; omega)]
    have e : (i + 1) * 3 + j - x.cells.toList.length = i * 3 + j := by simp [Rq.cells]; omega
    rw [e]
    exact this
theorem row_quiet {base size k : Nat} {e : TypeId} {w w' : World} {v : Value} {xs : List Value} (h : w.ownsRow base e size v k xs) (hg : w.grownBy w' none) : w'.ownsRow base e size v k xs := by
  refine h.kept hg ?_
  cases v.ownBlock with
  | none => exact .inl rfl
  | some g => exact .inr (by simp)
/-- Two rows of unlike types. -/
theorem rows_ne {b1 b2 k1 k2 s1 s2 : Nat} {e1 e2 : TypeId} {w : World} {v1 v2 : Value} {x1 x2 : List Value} (h1 : w.ownsRow b1 e1 s1 v1 k1 x1) (h2 : w.ownsRow b2 e2 s2 v2 k2 x2) (he : e1 ≠ e2) : v1.ownBlock = none ∨ v1.ownBlock ≠ v2.ownBlock := by
  rcases h1.2 with ⟨rfl, _⟩ | ⟨g1, c1, u1, rfl, _, g1h, _⟩
  · exact .inl rfl
  · rcases h2.2 with ⟨rfl, _⟩ | ⟨g2, c2, u2, rfl, _, g2h, _⟩
    · right; simp [Value.ownBlock]
    · right
      intro e
      cases e
      rw [g1h] at g2h
      cases g2h
      exact he rfl
/-- A row and a box of another type. -/
theorem row_box {b1 k1 s1 B : Nat} {e1 t : TypeId} {w : World} {v1 : Value} {x1 : List Value} {cs : Array Value} (h1 : w.ownsRow b1 e1 s1 v1 k1 x1) (hb : w.heap[B]? = some (.cells cs t (0, 0))) (he : e1 ≠ t) : v1.ownBlock ≠ some B := by
  rcases h1.2 with ⟨rfl, _⟩ | ⟨g1, c1, u1, rfl, _, g1h, _⟩
  · simp [Value.ownBlock]
  · intro e
    cases e
    rw [g1h] at hb
    cases hb
    exact he rfl

/-- A copied request: its command is its own. -/
structure Cq (base : Nat) (w : World) (r : Rq) : Prop where
  hc : r.cl < 18446744073709551616
  hs : r.sq < 18446744073709551616
  ow : Owns base w (.slice r.co r.cn r.cc) r.C
  hl : r.cn = r.C.length
theorem Cq.ok {base : Nat} {w : World} {r : Rq} (h : Cq base w r) : r.Ok w.heap.size w := by
  obtain ⟨hc, hs, ow, hl⟩ := h
  obtain ⟨cl, sq, co, cn, cc, C⟩ := r
  simp only at hl ow
  subst hl
  obtain ⟨ao, cap, e, hs', _⟩ := ow.form
  cases e
  exact ⟨hc, hs, hs'⟩
theorem Cq.next {base : Nat} {w w' : World} {r : Rq} {row : Option Nat} (h : Cq base w r) (hg : w.grownBy w' row) (hne : (Value.slice r.co r.cn r.cc).ownBlock = none ∨ (Value.slice r.co r.cn r.cc).ownBlock ≠ row) : Cq base w' r := ⟨h.hc, h.hs, h.ow.kept hg hne, h.hl⟩
theorem Cq.quiet {base : Nat} {w w' : World} {r : Rq} (h : Cq base w r) (hg : w.grownBy w' none) : Cq base w' r := ⟨h.hc, h.hs, h.ow.quiet hg, h.hl⟩
/-- Between two rounds. -/
structure Tw (w W2 : World) (rs : List Rq) (k : Nat) (v : Value) (rs1 : List Rq) (wr : World) : Prop where
  bel : Below W2.heap.size W2 wr
  row : wr.ownsRow W2.heap.size 65 3 v k (rcells rs1)
  len : rs1.length = k
  val : rs1.map Rq.val = (rs.take k).map Rq.val
  cq : ∀ r ∈ rs1, Cq W2.heap.size wr r
theorem Tw.next {w W2 : World} {rs : List Rq} {k : Nat} {v v' : Value} {rs1 : List Rq} {wr w1 w2 : World} {r r1 : Rq} {cs : Array Value} {x : Value} {o1 o2 : Obj}
    (h : Tw w W2 rs k v rs1 wr) (hr : rs[k]? = some r) (g1 : (wr.alloc o1).grownBy w1 none) (hq : w1.heap[wr.heap.size]? = some (.cells cs 65 (0, 0)))
    (hc : Cq W2.heap.size w1 r1) (hv : r1.val = r.val)
    (ho : w2.ownsRow W2.heap.size 65 3 v' (k + 1) (rcells (rs1 ++ [r1]))) (hg : ((w1.setCell ⟨wr.heap.size, 2, none⟩ x).alloc o2).grownBy w2 v.ownBlock) :
    Tw w W2 rs (k + 1) v' (rs1 ++ [r1]) w2 := by
  have hs := h.bel.size
  have g01 : wr.grownBy w1 none := grown_trans (World.grownBy_alloc wr o1 none) g1
  have row1 := row_quiet h.row g01
  have hvq : v.ownBlock ≠ some wr.heap.size := fun e => by have := (h.row.lt _ e).2; omega
  have cq1 : ∀ y ∈ rs1 ++ [r1], Cq W2.heap.size w1 y := fun y hy => by
    rcases List.mem_append.1 hy with hy | hy
    · exact (h.cq y hy).quiet g01
    · simp at hy; subst hy; exact hc
  have row2 := row1.kept (grown_set w1 wr.heap.size 2 x) (.inr hvq)
  have cq2 : ∀ y ∈ rs1 ++ [r1], Cq W2.heap.size (w1.setCell ⟨wr.heap.size, 2, none⟩ x) y := fun y hy => (cq1 y hy).next (grown_set w1 wr.heap.size 2 x) (.inr (row_box (cq1 y hy).ow.1 hq (by decide)))
  have hgA := World.grownBy_alloc (w1.setCell ⟨wr.heap.size, 2, none⟩ x) o2 none
  have row3 := row_quiet row2 hgA
  have cq3 : ∀ y ∈ rs1 ++ [r1], Cq W2.heap.size ((w1.setCell ⟨wr.heap.size, 2, none⟩ x).alloc o2) y := fun y hy => (cq2 y hy).quiet hgA
  refine ⟨?_, ho, by simp [h.len], ?_, fun y hy => (cq3 y hy).next hg (rows_ne (cq3 y hy).ow.1 row3 (by decide))⟩
  · have b1 : Below W2.heap.size W2 w1 := h.bel.grown g01 hs (fun k e => by cases e)
    have b2 := b1.setCell (p := ⟨wr.heap.size, 2, none⟩) (by simpa using hs) x
    have b3 := b2.grown hgA b2.size (fun k e => by cases e)
    exact b3.grown hg b3.size (fun k e => (row3.lt k e).1)
  · rw [List.map_append, h.val, List.take_add_one, hr]
    simp [hv]
/-- What is told as a batch. -/
def BtOk (w : World) (st : Nat) (v : Value) (rv : List (Nat × Nat × List Nat)) : Prop := ∃ ro rc rs b off, v = .slice ro rs.length rc ∧ rs.map Rq.val = rv ∧ Rqs w.heap.size w ro rs b off ∧ st < 18446744073709551616
/-- The same, of whatever world keeps the cells of the blocks from lo to hi. -/
def BtOn (lo hi : Nat) (w : World) (st : Nat) (v : Value) (rv : List (Nat × Nat × List Nat)) : Prop := ∀ w', w.heap.size ≤ w'.heap.size → (∀ (q j : Nat) (u : Value), lo ≤ q → q < hi → w.cell? ⟨q, j, none⟩ = some u → w'.cell? ⟨q, j, none⟩ = some u) → BtOk w' st v rv
theorem BtOn.ok {lo hi : Nat} {w : World} {st : Nat} {v : Value} {rv : List (Nat × Nat × List Nat)} (h : BtOn lo hi w st v rv) : BtOk w st v rv := h w (Nat.le_refl _) (fun _ _ _ _ _ e => e)
theorem BtOn.next {lo hi : Nat} {w w2 : World} {st : Nat} {v : Value} {rv : List (Nat × Nat × List Nat)} (h : BtOn lo hi w st v rv) (hs : w.heap.size ≤ w2.heap.size) (hk : ∀ (q j : Nat) (u : Value), lo ≤ q → q < hi → w.cell? ⟨q, j, none⟩ = some u → w2.cell? ⟨q, j, none⟩ = some u) : BtOn lo hi w2 st v rv := fun w' hs' hk' => h w' (Nat.le_trans hs hs') (fun q j u h1 h2 h3 => hk' q j u h1 h2 (hk q j u h1 h2 h3))
theorem BtOk.kept {w w' : World} {st : Nat} {v : Value} {rv : List (Nat × Nat × List Nat)} (h : BtOk w st v rv) (hb : Below w.heap.size w w') : BtOk w' st v rv := by
  obtain ⟨ro, rc, rs, b, off, h1, h2, h3, h4⟩ := h
  exact ⟨ro, rc, rs, b, off, h1, h2, (h3.below hb).wide hb.size, h4⟩
theorem BtOk.odd {w w' : World} {st q : Nat} {v : Value} {rv : List (Nat × Nat × List Nat)} (h : BtOk w st v rv) (hg : w.grownBy w' (some q)) (ho : Odd w q) : BtOk w' st v rv := by
  obtain ⟨ro, rc, rs, b, off, h1, h2, h3, h4⟩ := h
  exact ⟨ro, rc, rs, b, off, h1, h2, (h3.odd hg ho).wide hg.size, h4⟩
theorem Tw.form {w W2 : World} {rs : List Rq} {k : Nat} {v : Value} {rs1 : List Rq} {wr : World} (h : Tw w W2 rs k v rs1 wr) (hle : k ≤ 3518437208883) : ∃ ao cap b, v = .slice ao rs1.length cap ∧ Rqs wr.heap.size wr ao rs1 b 0 := by
  have hl := h.len
  rcases h.row.2 with ⟨rfl, h0⟩ | ⟨g, cap, cur, rfl, hbg, hg, hnc, hcm, hcs, htake⟩
  · have : rs1 = [] := List.eq_nil_of_length_eq_zero (by omega)
    subst this
    exact ⟨none, 0, 0, rfl, Rqs.nil _ _ _⟩
  · refine ⟨some ⟨g, 0, none⟩, cap, g, by rw [hl], fun _ => rfl, fun _ => block_lt hg, by omega, fun i r hr j v hv => ?_, fun r hr => (h.cq r hr).ok⟩
    have h1 := rcells_at rs1 i r hr j v hv
    have hlt : i * 3 + j < k * 3 := by rw [← hl, ← rcells_len]; exact (List.getElem?_eq_some_iff.1 h1).1
    rw [← htake, List.getElem?_take, if_pos hlt] at h1
    have h2 := cell_of_row wr g (0 + i * 3 + j) cur _ (0, 0) hg
    rw [h2, Nat.zero_add]
    simpa using h1
/-- What lies in the new row and in the commands' own blocks is there still. -/
theorem Tw.turned {w W2 : World} {rs : List Rq} {k : Nat} {ao : Option Addr} {cap : Nat} {rs1 : List Rq} {wr w' : World} {b : Nat} (h : Tw w W2 rs k (.slice ao rs1.length cap) rs1 wr) (hR : Rqs wr.heap.size wr ao rs1 b 0) (_ : k ≤ 3518437208883)
    (hc : ∀ (q j : Nat) (v : Value), W2.heap.size ≤ q → wr.cell? ⟨q, j, none⟩ = some v → w'.cell? ⟨q, j, none⟩ = some v) (hs : wr.heap.size ≤ w'.heap.size) : Rqs w'.heap.size w' ao rs1 b 0 := by
  refine ⟨hR.ad, fun e => Nat.lt_of_lt_of_le (hR.lt e) hs, hR.le, fun i r hr j v hv => ?_, fun r hr => ?_⟩
  · refine hc b _ v ?_ (hR.at_ i r hr j v hv)
    have hpos : 0 < rs1.length := by have := (List.getElem?_eq_some_iff.1 hr).1; omega
    have e := hR.ad hpos
    subst e
    exact (h.row.lt b (by simp [Value.ownBlock])).1
  · have q := h.cq r hr
    obtain ⟨cl, sq, co, cn, cc, C⟩ := r
    obtain ⟨s1, s2, s3, s4, cb, coff, s5, s6, s7⟩ := q.ok.hC
    simp only at s1 s2 s3 s4 s5 s6 s7
    refine ⟨q.hc, q.hs, s1, s2, s3, s4, cb, coff, s5, fun e => Nat.lt_of_lt_of_le (s6 e) hs, fun i hi => hc cb _ _ ?_ (s7 i hi)⟩
    have hi' : i < cn := hi
    have e := s5 (by omega)
    subst e
    have hw := q.ow.1
    rcases hw.2 with ⟨h0, _⟩ | ⟨g, cap', cur, h0, hbg, _⟩
    · cases h0
    · have e : cb = g := by simp only [Value.slice.injEq, Option.some.injEq, Addr.mk.injEq] at h0; exact h0.1.1
      rw [e]
      exact hbg
theorem cell_req_new (W : World) (x y z : Value) (t : TypeId) : ∀ (j : Nat) (u : Value), [x, y, z][j]? = some u → (W.alloc (.cells #[x, y, z] t)).cell? (Addr.add ⟨W.heap.size, 0, none⟩ j) = some u := by
  intro j u hu
  have := World.cell?_alloc_new W #[x, y, z] t j
  have he : Addr.add ⟨W.heap.size, 0, none⟩ j = ⟨W.heap.size, j, none⟩ := by
    simp only [Addr.add]
    split <;> simp_all
  rw [he, this]
  simpa using hu
end Go.Proofs.Ytojknconkmplkaa
namespace Go.Proofs.Ytojknconkmplkaa
open Go.RowKit Crc

set_option maxRecDepth 10000 in
set_option maxHeartbeats 1600000 in
theorem twin_on {w : World} (st : Nat) (hst : st < 18446744073709551616) {ro : Option Addr} {rs : List Rq} {b off : Nat} (n rc : Nat) (hn : rs.length = n) (h : Rqs w.heap.size w ro rs b off) :
    Calls Try.prog 20 #[.agg #[.int .u64 (st : Nat), .slice ro n rc]] w fun e w' => ∃ ao m cap, e = .returned (.agg #[.int .u64 (st : Nat), .slice ao m cap]) ∧ Hid (BtOn w.heap.size w'.heap.size w' st (.slice ao m cap) (rs.map Rq.val) ∧ Below w.heap.size w w') := by
  obtain ⟨i0, hi, hz0, hz1, hz2⟩ := info_parts infoReq
  obtain ⟨j0, hj, hy0, hy1, hy2⟩ := info_parts Try.info5
  have hle := h.le
  rw [hn] at hle
  have HST := hide hst
  have HRS := hide h
  have HN := hide hn
  clear h hn hst
  obtain ⟨W2, hW2⟩ : ∃ W2, (w.alloc (.cells #[.int .u64 (st : Nat), .slice ro n rc] 43)).alloc (.cells #[.int .u64 0, .slice none 0 0] 43) = W2 := ⟨_, rfl⟩
  have s2 : W2.heap.size = w.heap.size + 2 := by rw [← hW2]; simp
  have HW : Hid (Below w.heap.size w W2 ∧ W2.heap[w.heap.size]? = some (.cells #[.int .u64 (st : Nat), .slice ro n rc] 43 (0, 0)) ∧ W2.heap[w.heap.size + 1]? = some (.cells #[.int .u64 0, .slice none 0 0] 43 (0, 0)) ∧ Tw w W2 rs 0 (.slice none 0 0) [] W2) := by
    have e1 : (w.alloc (.cells #[.int .u64 (st : Nat), .slice ro n rc] 43)).heap.size = w.heap.size + 1 := by simp
    refine ⟨?_, ?_, ?_, ⟨Below.refl _ _, World.ownsRow_nil _ _ _ _, rfl, by simp, fun r hr => by simp at hr⟩⟩
    · rw [← hW2]; exact (below_alloc1 w _).alloc (by simp) _
    · rw [← hW2]; exact ((World.grownBy_alloc _ _ none).block _ (by simp) (by simp)).trans (alloc_atK w _)
    · rw [← hW2, ← e1]; exact alloc_atK _ _
  have HW2 := hide hW2
  clear hW2
  have x1 := block_cell HW.out.2.1 1
  simp at x1
  go_enter Try.func20, Try.ntmps20
  go_upto_region 1 with fail
  rw [HW2.out]
  clear HW2
  go_wp2
  clear x1
  go_loopw [3, 5, 9] (fun v p i wr => ∃ k : Nat, k ≤ n ∧ i = .int .i64 k ∧ ∃ rs1, Hid (Tw w W2 rs k v rs1 wr)) (fun _ _ i _ => n - (intOf i).toNat)
  case atStart => exact ⟨0, by omega, rfl, [], HW.out.2.2.2⟩
  case round =>
    obtain ⟨k, hk, rfl, rs1, HT⟩ := hrel
    generalize u3 = v at *
    have hsz : w.heap.size + 2 ≤ wr.heap.size := by have := HT.out.bel.size; omega
    have hBS : Hid (W2.heap.size ≤ wr.heap.size) := HT.out.bel.size
    have HBW : Hid (Below w.heap.size w wr) := HW.out.1.trans (HT.out.bel.mono (by omega))
    by_cases hlt : k < n
    · obtain ⟨r, hr, hd, hok, hbl, rfl, c0, c1, c2⟩ := (HRS.out.below HBW.out).get (k := k) (by have := HN.out; omega)
      obtain ⟨cl, sq, co, cn, cc, C⟩ := r
      simp only at c0 c1 c2
      have HR := hide hr
      have HOK := hide hok
      have hbl' : b < wr.heap.size := by have := HBW.out.size; omega
      clear hr hd hok hbl
      have HQ0 : Hid (∀ o, (wr.alloc o).heap[wr.heap.size]? = some o) := fun o => alloc_atK wr o
      by_cases hcn : cn = 0
      · subst hcn
        have HC0 : Hid (C = []) := List.eq_nil_of_length_eq_zero HOK.out.hC.1.symm
        have HAN := hide (fun wx => append_none_run none co 0 0 cc (Nat.le_refl _) wx)
        go_upto_region 5 with fail
        obtain ⟨w1, hw1⟩ : ∃ w1, wr.alloc (.cells #[.int .u64 (cl : Int), .int .u64 (sq : Int), .slice co 0 cc] 65) = w1 := ⟨_, rfl⟩
        have G1 : Hid ((wr.alloc (.cells #[.int .u64 (cl : Int), .int .u64 (sq : Int), .slice co 0 cc] 65)).grownBy w1 none) := by rw [hw1]; exact ⟨rfl, rfl, rfl, Nat.le_refl _, fun _ _ _ => rfl⟩
        have G01 : Hid (wr.grownBy w1 none) := grown_trans (World.grownBy_alloc wr _ none) G1.out
        have HQ : Hid (w1.heap[wr.heap.size]? = some (.cells #[.int .u64 (cl : Int), .int .u64 (sq : Int), .slice co 0 cc] 65 (0, 0))) := by rw [← hw1]; exact alloc_atK _ _
        have hs1 : wr.heap.size < w1.heap.size := block_lt HQ.out
        have HCQ : Hid (Cq W2.heap.size w1 ⟨cl, sq, none, 0, 0, C⟩) := ⟨HOK.out.hc, HOK.out.hs, by rw [HC0.out]; exact Owns.nil _ _, by rw [HC0.out]; rfl⟩
        rw [hw1]
        clear hw1 c0 c1 c2
        have q0 := block_cell HQ.out 0
        have q1 := block_cell HQ.out 1
        have q2 := block_cell HQ.out 2
        have f2 := block_free HQ.out 2
        simp at q0 q1 q2
        go_upto_region 6 with (at_builtin; refine wpList_append_nothing rfl _ _ 45 rfl _ _ rfl rfl (HAN.out _) ?_)
        have HOW : Hid (∀ o, ((w1.setCell ⟨wr.heap.size, 2, none⟩ (.slice none 0 0)).alloc o).ownsRow W2.heap.size 65 3 v k (rcells rs1)) := fun o => by
          have r1 := row_quiet HT.out.row G01.out
          have hvq : v.ownBlock ≠ some wr.heap.size := fun e => by have := (HT.out.row.lt _ e).2; omega
          exact row_quiet (r1.kept (grown_set _ _ _ _) (.inr hvq)) (World.grownBy_alloc _ _ none)
        have HNW : Hid (∀ (j : Nat) (u : Value), [Value.int .u64 (cl : Int), .int .u64 (sq : Int), (.slice none 0 0)][j]? = some u → ((w1.setCell ⟨wr.heap.size, 2, none⟩ (.slice none 0 0)).alloc (.cells #[.int .u64 (cl : Int), .int .u64 (sq : Int), (.slice none 0 0)] 65)).cell? (Addr.add ⟨w1.heap.size, 0, none⟩ j) = some u) := by
          have h := cell_req_new (w1.setCell ⟨wr.heap.size, 2, none⟩ (.slice none 0 0)) (.int .u64 (cl : Int)) (.int .u64 (sq : Int)) (.slice none 0 0) 65
          rw [show (w1.setCell ⟨wr.heap.size, 2, none⟩ (.slice none 0 0)).heap.size = w1.heap.size by simp] at h
          exact h
        have HNX : Hid (∀ (v' : Value) (w2 : World) (o2 : Obj), w2.ownsRow W2.heap.size 65 3 v' (k + 1) (rcells (rs1 ++ [⟨cl, sq, none, 0, 0, C⟩])) → ((w1.setCell ⟨wr.heap.size, 2, none⟩ (.slice none 0 0)).alloc o2).grownBy w2 v.ownBlock → Tw w W2 rs (k + 1) v' (rs1 ++ [⟨cl, sq, none, 0, 0, C⟩]) w2) := fun v' w2 o2 ho hg =>
          Tw.next (r1 := ⟨cl, sq, none, 0, 0, C⟩) HT.out HR.out G1.out HQ.out HCQ.out rfl ho hg
        go_wp2_with (at_builtin; refine wpList_append_own _ rfl (.tmp 17) (.tmp 19) 41 rfl W2.heap.size 65 i0 (.agg #[.int .u64 0, .int .u64 0, .slice none 0 0]) 3 40 Try.underlying41 hi hz0 hz1 hz2 rfl (by decide) v k (rcells rs1) rfl (HOW.out _) ⟨w1.heap.size, 0, none⟩ 1 1 [.int .u64 (cl : Int), .int .u64 (sq : Int), (.slice none 0 0)] rfl rfl HNW.out (by simp [Value.oneCell']) (by unfold maxLen; omega) (by omega) (by simp; omega) ?_; intro v' w2 ho hg _; have HC2 := hide (HNX.out _ _ _ (by rw [rcells_snoc]; exact ho) hg); obtain ⟨g', cap', rfl⟩ := ownsRow_succ ho; clear ho hg)
        go_roundw
        case rel => exact ⟨k + 1, by omega, by go_num, _, HC2.out⟩
        case measure => simp [intOf]; omega
      · have hpos : 0 < cn := by omega
        obtain ⟨s1, s2', s3, s4, cb, coff, s5, s6, s7⟩ := HOK.out.hC
        obtain rfl := s5 hpos
        have hcb : cb < wr.heap.size := by have := s6 hpos; have := HBW.out.size; omega
        have HS7 : Hid (∀ W, wr.grownBy W none → ∀ j u, (vals C)[j]? = some u → W.cell? ((⟨cb, coff, none⟩ : Addr).add j) = some u) := fun W hg j u hj => hg.cell (vals_cell (fun i hi => s7 i (by rw [s1]; exact hi)) j u hj) (by simp)
        have HCL : Hid (cn = C.length) := s1
        have HC256 : Hid (∀ x ∈ C, x < 256) := s4
        have s3' : cn ≤ 140737488355328 := s3
        clear s1 s2' s3 s4 s5 s6 s7
        go_upto_region 5 with fail
        obtain ⟨w0, hw0⟩ : ∃ w0, wr.alloc (.cells #[.int .u64 (cl : Int), .int .u64 (sq : Int), .slice (some ⟨cb, coff, none⟩) cn cc] 65) = w0 := ⟨_, rfl⟩
        have G00 : Hid (wr.grownBy w0 none) := by rw [← hw0]; exact World.grownBy_alloc wr _ none
        have HQ0' : Hid (w0.heap[wr.heap.size]? = some (.cells #[.int .u64 (cl : Int), .int .u64 (sq : Int), .slice (some ⟨cb, coff, none⟩) cn cc] 65 (0, 0))) := by rw [← hw0]; exact alloc_atK _ _
        have HW0 := hide hw0
        rw [hw0]
        clear hw0 c0 c1 c2
        have q0 := block_cell HQ0'.out 0
        have q1 := block_cell HQ0'.out 1
        have q2 := block_cell HQ0'.out 2
        have f2 := block_free HQ0'.out 2
        simp at q0 q1 q2
        have hs0 : wr.heap.size < w0.heap.size := block_lt HQ0'.out
        have hb0 : Hid (W2.heap.size ≤ w0.heap.size) := by have := hBS.out; show _ ≤ _; omega
        have hlv : (vals C).length = cn := by rw [vals_len]; exact HCL.out.symm
        have HMK : Hid (∀ v5 w1, w1.ownsRow W2.heap.size 5 1 v5 (0 + cn) ([] ++ vals C) → Ext w0 w1 (.slice none 0 0) v5 → ∃ g5 cap5, v5 = .slice (some ⟨g5, 0, none⟩) cn cap5 ∧ Hid (w0.grownBy w1 none ∧ Cq W2.heap.size w1 ⟨cl, sq, some ⟨g5, 0, none⟩, cn, cap5, C⟩)) := by
          intro v5 w1 ho5 hx5
          rw [List.nil_append, Nat.zero_add] at ho5
          obtain ⟨g5, cap5, hv5, _⟩ := own_shape ho5 hpos
          subst hv5
          refine ⟨g5, cap5, rfl, hx5.1, HOK.out.hc, HOK.out.hs, ⟨?_, HC256.out, by have := HCL.out; show C.length ≤ _; omega⟩, HCL.out⟩
          rw [← HCL.out]
          exact ho5
        go_upto_region 6 with (at_builtin; refine wpList_append_ext _ rfl _ _ 45 rfl W2.heap.size 5 j0 (.int .u8 0) Try.underlying45 hj hy0 hy1 hy2 rfl (.slice none 0 0) 0 [] rfl (World.ownsRow_nil _ _ _ _) ⟨cb, coff, none⟩ cn cc (vals C) rfl hlv (HS7.out _ G00.out) (vals_one' C) hpos (by omega) hb0.out ?_; intro v5 w1 ho5 hx5; obtain ⟨g5, cap5, hv5, G5⟩ := HMK.out v5 w1 ho5 hx5; clear ho5 hx5; subst hv5; clear q0 q1 q2 f2; have HQ : Hid (w1.heap[wr.heap.size]? = some (.cells #[.int .u64 (cl : Int), .int .u64 (sq : Int), .slice (some ⟨cb, coff, none⟩) cn cc] 65 (0, 0))) := (G5.out.1.block _ hs0 (by simp)).trans HQ0'.out; have hs1 : wr.heap.size < w1.heap.size := block_lt HQ.out; have q0 := block_cell HQ.out 0; have q1 := block_cell HQ.out 1; have q2 := block_cell HQ.out 2; have f2 := block_free HQ.out 2; simp at q0 q1 q2)
        have G1 : Hid ((wr.alloc (.cells #[.int .u64 (cl : Int), .int .u64 (sq : Int), .slice (some ⟨cb, coff, none⟩) cn cc] 65)).grownBy w1 none) := by rw [HW0.out]; exact G5.out.1
        have G01 : Hid (wr.grownBy w1 none) := grown_trans G00.out G5.out.1
        have HCQ := hide G5.out.2
        clear HW0
        have HOW : Hid (∀ o, ((w1.setCell ⟨wr.heap.size, 2, none⟩ (.slice (some ⟨g5, 0, none⟩) cn cap5)).alloc o).ownsRow W2.heap.size 65 3 v k (rcells rs1)) := fun o => by
          have r1 := row_quiet HT.out.row G01.out
          have hvq : v.ownBlock ≠ some wr.heap.size := fun e => by have := (HT.out.row.lt _ e).2; omega
          exact row_quiet (r1.kept (grown_set _ _ _ _) (.inr hvq)) (World.grownBy_alloc _ _ none)
        have HNW : Hid (∀ (j : Nat) (u : Value), [Value.int .u64 (cl : Int), .int .u64 (sq : Int), (.slice (some ⟨g5, 0, none⟩) cn cap5)][j]? = some u → ((w1.setCell ⟨wr.heap.size, 2, none⟩ (.slice (some ⟨g5, 0, none⟩) cn cap5)).alloc (.cells #[.int .u64 (cl : Int), .int .u64 (sq : Int), (.slice (some ⟨g5, 0, none⟩) cn cap5)] 65)).cell? (Addr.add ⟨w1.heap.size, 0, none⟩ j) = some u) := by
          have h := cell_req_new (w1.setCell ⟨wr.heap.size, 2, none⟩ (.slice (some ⟨g5, 0, none⟩) cn cap5)) (.int .u64 (cl : Int)) (.int .u64 (sq : Int)) (.slice (some ⟨g5, 0, none⟩) cn cap5) 65
          rw [show (w1.setCell ⟨wr.heap.size, 2, none⟩ (.slice (some ⟨g5, 0, none⟩) cn cap5)).heap.size = w1.heap.size by simp] at h
          exact h
        have HNX : Hid (∀ (v' : Value) (w2 : World) (o2 : Obj), w2.ownsRow W2.heap.size 65 3 v' (k + 1) (rcells (rs1 ++ [⟨cl, sq, (some ⟨g5, 0, none⟩), cn, cap5, C⟩])) → ((w1.setCell ⟨wr.heap.size, 2, none⟩ (.slice (some ⟨g5, 0, none⟩) cn cap5)).alloc o2).grownBy w2 v.ownBlock → Tw w W2 rs (k + 1) v' (rs1 ++ [⟨cl, sq, (some ⟨g5, 0, none⟩), cn, cap5, C⟩]) w2) := fun v' w2 o2 ho hg =>
          Tw.next (r1 := ⟨cl, sq, (some ⟨g5, 0, none⟩), cn, cap5, C⟩) HT.out HR.out G1.out HQ.out HCQ.out rfl ho hg
        go_wp2_with (at_builtin; refine wpList_append_own _ rfl (.tmp 17) (.tmp 19) 41 rfl W2.heap.size 65 i0 (.agg #[.int .u64 0, .int .u64 0, .slice none 0 0]) 3 40 Try.underlying41 hi hz0 hz1 hz2 rfl (by decide) v k (rcells rs1) rfl (HOW.out _) ⟨w1.heap.size, 0, none⟩ 1 1 [.int .u64 (cl : Int), .int .u64 (sq : Int), (.slice (some ⟨g5, 0, none⟩) cn cap5)] rfl rfl HNW.out (by simp [Value.oneCell']) (by unfold maxLen; omega) (by omega) (by simp; omega) ?_; intro v' w2 ho hg _; have HC2 := hide (HNX.out _ _ _ (by rw [rcells_snoc]; exact ho) hg); obtain ⟨g', cap', rfl⟩ := ownsRow_succ ho; clear ho hg)
        go_roundw
        case rel => exact ⟨k + 1, by omega, by go_num, _, HC2.out⟩
        case measure => simp [intOf]; omega
    · obtain rfl : k = n := by omega
      obtain ⟨ao, cp, b', hv, hR1⟩ := HT.out.form (by omega)
      subst hv
      have HV : Hid (rs1.map Rq.val = rs.map Rq.val) := by have := HT.out.val; rwa [List.take_of_length_le (by have := HN.out; omega)] at this
      have HR1 := hide hR1
      have HB1 : Hid (wr.heap[w.heap.size]? = some (.cells #[.int .u64 (st : Nat), .slice ro k rc] 43 (0, 0))) := (HT.out.bel.block _ (by omega)).trans HW.out.2.1
      have HB2 : Hid (wr.heap[w.heap.size + 1]? = some (.cells #[.int .u64 0, .slice none 0 0] 43 (0, 0))) := (HT.out.bel.block _ (by omega)).trans HW.out.2.2.1
      clear hR1
      have y0 := block_cell HB1.out 0
      have y1 := block_cell HB1.out 1
      have z0 := block_cell HB2.out 0
      have z1 := block_cell HB2.out 1
      have f1 := block_free HB1.out 1
      have f3 := block_free HB2.out 0
      have f4 := block_free HB2.out 1
      simp at y0 y1 z0 z1
      have hne1 : ¬ w.heap.size = w.heap.size + 1 := by omega
      have hlt0 : w.heap.size < wr.heap.size := by omega
      have hlt1 : w.heap.size + 1 < wr.heap.size := by omega
      have FIN : Hid (∀ u0 u1 u2, BtOn w.heap.size (((wr.setCell ⟨w.heap.size, 1, none⟩ u0).setCell ⟨w.heap.size + 1, 0, none⟩ u1).setCell ⟨w.heap.size + 1, 1, none⟩ u2).heap.size (((wr.setCell ⟨w.heap.size, 1, none⟩ u0).setCell ⟨w.heap.size + 1, 0, none⟩ u1).setCell ⟨w.heap.size + 1, 1, none⟩ u2) st (.slice ao rs1.length cp) (rs.map Rq.val) ∧ Below w.heap.size w (((wr.setCell ⟨w.heap.size, 1, none⟩ u0).setCell ⟨w.heap.size + 1, 0, none⟩ u1).setCell ⟨w.heap.size + 1, 1, none⟩ u2)) := by
        intro u0 u1 u2
        refine ⟨fun w'' hs'' hk'' => ⟨ao, cp, rs1, b', 0, rfl, HV.out, ?_, HST.out⟩, ((HBW.out.setCell (p := ⟨w.heap.size, 1, none⟩) (by simp) _).setCell (p := ⟨w.heap.size + 1, 0, none⟩) (by simp) _).setCell (p := ⟨w.heap.size + 1, 1, none⟩) (by simp) _⟩
        have hcells : ∀ (q j : Nat) (v : Value), W2.heap.size ≤ q → wr.cell? ⟨q, j, none⟩ = some v → (((wr.setCell ⟨w.heap.size, 1, none⟩ u0).setCell ⟨w.heap.size + 1, 0, none⟩ u1).setCell ⟨w.heap.size + 1, 1, none⟩ u2).cell? ⟨q, j, none⟩ = some v := fun q j v hq hc => by
          have g := grown_set wr w.heap.size 1 u0
          have g2 := grown_set (wr.setCell ⟨w.heap.size, 1, none⟩ u0) (w.heap.size + 1) 0 u1
          have g3 := grown_set ((wr.setCell ⟨w.heap.size, 1, none⟩ u0).setCell ⟨w.heap.size + 1, 0, none⟩ u1) (w.heap.size + 1) 1 u2
          exact g3.cell (g2.cell (g.cell hc (by simp; omega)) (by simp; omega)) (by simp; omega)
        have hsz3 : (((wr.setCell ⟨w.heap.size, 1, none⟩ u0).setCell ⟨w.heap.size + 1, 0, none⟩ u1).setCell ⟨w.heap.size + 1, 1, none⟩ u2).heap.size = wr.heap.size := by simp
        exact HT.out.turned HR1.out (by omega) (fun q j v hq hc => hk'' q j v (by omega) (by rw [hsz3]; rcases Nat.lt_or_ge q wr.heap.size with h | h; exact h; simp [World.cell?, Array.getElem?_eq_none h] at hc) (hcells q j v hq hc)) (by omega)
      go_wp2
      refine bodyPost_ret (v := .agg #[.int .u64 (st : Nat), .slice ao rs1.length cp]) (by simp [results, Try.results20, go_sem, z0, z1]) rfl ⟨_, _, _, rfl, FIN.out _ _ _⟩
theorem twin_any {w : World} (st : Nat) (hst : st < 18446744073709551616) {ro : Option Addr} {rs : List Rq} {b off : Nat} (n rc : Nat) (hn : rs.length = n) (h : Rqs w.heap.size w ro rs b off) :
    Calls Try.prog 20 #[.agg #[.int .u64 (st : Nat), .slice ro n rc]] w fun e w' => ∃ ao m cap, e = .returned (.agg #[.int .u64 (st : Nat), .slice ao m cap]) ∧ Hid (BtOk w' st (.slice ao m cap) (rs.map Rq.val) ∧ Below w.heap.size w w') :=
  (twin_on st hst n rc hn h).mono fun _ _ ⟨ao, m, cap, h1, h2⟩ => ⟨ao, m, cap, h1, h2.out.1.ok, h2.out.2⟩
end Go.Proofs.Ytojknconkmplkaa
namespace Go.Proofs.Ytojknconkmplkaa
open Go.RowKit Crc

/-- What is told of a slot. -/
def decS (c : Cf) (t : Jv) : Nat := if c.maj t.fr = true then t.st else 0
def decR (c : Cf) (t : Jv) : List (Nat × Nat × List Nat) := if c.maj t.fr = true then t.rs else []
/-- A batch's cell at the bottom of what was made. -/
theorem BtOk.set {w : World} {B st : Nat} {v : Value} {rv : List (Nat × Nat × List Nat)} (h : BtOk w st v rv) (hB : w.heap[B]? = some (.cells #[.int .u64 0, .slice none 0 0] 43 (0, 0))) (u0 u1 : Value) :
    BtOk ((w.setCell ⟨B, 0, none⟩ u0).setCell ⟨B, 1, none⟩ u1) st v rv := by
  obtain ⟨ro, rc, rs, b, off, h1, h2, h3, h4⟩ := h
  have g1 := grown_set w B 0 u0
  have g2 := grown_set (w.setCell ⟨B, 0, none⟩ u0) B 1 u1
  have g := grown_trans g1 g2
  have nB : ∀ j v, w.cell? ⟨B, j, none⟩ = some v → v = .int .u64 0 ∨ v = .slice none 0 0 := fun j v hv => by
    rw [block_cell hB j] at hv
    match j, hv with
    | 0, hv => simp at hv; exact .inl hv.symm
    | 1, hv => simp at hv; exact .inr hv.symm
    | j + 2, hv => simp at hv
  refine ⟨ro, rc, rs, b, off, h1, h2, ⟨h3.ad, fun e => Nat.lt_of_lt_of_le (h3.lt e) g.size, h3.le, fun i r hr j v hv => g.cell (h3.at_ i r hr j v hv) (fun e => ?_), fun r hr => ⟨(h3.ok r hr).hc, (h3.ok r hr).hs, ?_⟩⟩, h4⟩
  · cases e
    have x0 := h3.at_ i r hr 0 _ rfl
    have x1 := h3.at_ i r hr 1 _ rfl
    have x2 := h3.at_ i r hr 2 _ rfl
    have l2 : off + i * 3 + 2 < 2 := by
      rw [block_cell hB] at x2
      have := (Array.getElem?_eq_some_iff.1 x2).1
      simpa using this
    omega
  · obtain ⟨s1, s2, s3, s4, cb, coff, s5, s6, s7⟩ := (h3.ok r hr).hC
    refine ⟨s1, s2, s3, s4, cb, coff, s5, fun e => Nat.lt_of_lt_of_le (s6 e) g.size, fun i hi => g.cell (s7 i hi) (fun e => ?_)⟩
    cases e
    rcases nB _ _ (s7 i hi) with h | h <;> cases h

set_option maxRecDepth 10000 in
set_option maxHeartbeats 1600000 in
theorem decidedL {W : World} {lb g mb nn : Nat} {c : Cf} {low : Nat} {u : Nat → Jv} (hk : c.Ok) (h : LL W lb g mb nn c low u) (slot : Nat) (hs : slot < 18446744073709551616) :
    Calls Try.prog 12 #[.pointer (some ⟨lb, 0, none⟩), .int .u64 (slot : Nat)] W fun e w' => ∃ ao m cap, e = .returned (.tuple #[.agg #[.int .u64 (decS c (u slot) : Nat), .slice ao m cap], .bool (c.maj (u slot).fr)]) ∧ Hid (BtOk w' (decS c (u slot)) (.slice ao m cap) (decR c (u slot)) ∧ Below W.heap.size W w') := by
  obtain ⟨W1, hW1⟩ : ∃ W1, W.alloc (.cells #[.int .u64 0, .slice none 0 0] 43) = W1 := ⟨_, rfl⟩
  have B1 : Hid (Below W.heap.size W W1) := by rw [← hW1]; exact below_alloc1 W _
  have C1 : Hid (W1.heap[W.heap.size]? = some (.cells #[.int .u64 0, .slice none 0 0] 43 (0, 0))) := by rw [← hW1]; exact alloc_atK _ _
  have HL := hide (h.kept B1.out)
  have HM := hide (madeL HL.out)
  have q2 : W1.cell? ⟨lb, 2, none⟩ = some (.map (some mb)) := HL.out.c 2
  have ql : lb < W1.heap.size := block_lt HL.out.blk
  obtain ⟨m, t1, t2, t3⟩ := HL.out.tal
  have hlk := t1.look hs
  have HT := hide (t2 slot)
  have HA := hide (t3 slot)
  clear t1 t2 t3 h hs
  generalize m slot = tl at *
  obtain ⟨num, node, fr, st, ro, n, rc, rs, b, off⟩ := tl
  unfold Jt.cells at hlk
  obtain ⟨W2, hW2⟩ : ∃ W2, W1.alloc (.cells #[.int .u64 (num : Nat), .int .i64 node, .int .u32 (fr : Nat), .int .u64 (st : Nat), .slice ro n rc] 80) = W2 := ⟨_, rfl⟩
  have B2 : Hid (Below W1.heap.size W1 W2) := by rw [← hW2]; exact below_alloc1 W1 _
  have C2 : Hid (W2.heap[W1.heap.size]? = some (.cells #[.int .u64 (num : Nat), .int .i64 node, .int .u32 (fr : Nat), .int .u64 (st : Nat), .slice ro n rc] 80 (0, 0))) := by rw [← hW2]; exact alloc_atK _ _
  have HDN : Hid (Calls Try.prog 18 #[.pointer (some ⟨lb, 0, none⟩), .agg #[.int .u64 (num : Nat), .int .i64 node, .int .u32 (fr : Nat), .int .u64 (st : Nat), .slice ro n rc]] W2 fun e w' => e = .returned (.bool (c.maj fr)) ∧ Hid (Below W2.heap.size W2 w')) := doneL hk (HL.out.kept B2.out) ⟨num, node, fr, st, ro, n, rc, rs, b, off⟩ HT.out.hf
  have HTW : Hid (∀ V, Below W2.heap.size W2 V → Calls Try.prog 20 #[.agg #[.int .u64 (st : Nat), .slice ro n rc]] V fun e w' => ∃ ao m cap, e = .returned (.agg #[.int .u64 (st : Nat), .slice ao m cap]) ∧ Hid (BtOk w' st (.slice ao m cap) (rs.map Rq.val) ∧ Below V.heap.size V w')) := fun V hb => by
    have hb1 := B2.out.trans (hb.mono B2.out.size)
    exact twin_any st HT.out.hs n rc HT.out.hl ((HT.out.hR.below hb1).wide hb1.size)
  have HU : Hid (u slot = ⟨num, node, fr, st, rs.map Rq.val⟩) := HA.out.symm
  have e1 : (u slot).fr = fr := by rw [HU.out]
  have e2 : (u slot).st = st := by rw [HU.out]
  have e3 : (u slot).rs = rs.map Rq.val := by rw [HU.out]
  unfold decS decR
  rw [e1, e2, e3]
  have HW1 := hide hW1
  have HW2 := hide hW2
  clear e1 e2 e3 HU HA HT hW1 hW2 hk HL
  generalize rs.map Rq.val = rv at *
  generalize c.maj fr = z at *
  go_enter Try.func12, Try.ntmps12
  go_upto_region 1 with fail
  rw [HW1.out]
  clear HW1
  go_wp2_with fail
  refine HM.out.mono ?_
  rintro e w1 ⟨rfl, hw⟩
  rw [hw]
  clear hw HM
  go_upto_region 4 with fail
  rw [HW2.out]
  clear HW2 hlk q2 ql
  have t0 := block_cell C2.out 0
  have t1 := block_cell C2.out 1
  have t2 := block_cell C2.out 2
  have t3 := block_cell C2.out 3
  have t4 := block_cell C2.out 4
  simp at t0 t1 t2 t3 t4
  go_wp2_with fail
  refine HDN.out.mono ?_
  rintro e w3 ⟨rfl, G3⟩
  clear t0 t1 t2 t3 t4 HDN
  have D1 : Hid (w3.heap[W.heap.size]? = some (.cells #[.int .u64 0, .slice none 0 0] 43 (0, 0))) := (G3.out.block _ (Nat.lt_of_lt_of_le (block_lt C1.out) B2.out.size)).trans ((B2.out.block _ (block_lt C1.out)).trans C1.out)
  have D2 : Hid (w3.heap[W1.heap.size]? = some (.cells #[.int .u64 (num : Nat), .int .i64 node, .int .u32 (fr : Nat), .int .u64 (st : Nat), .slice ro n rc] 80 (0, 0))) := (G3.out.block _ (block_lt C2.out)).trans C2.out
  have B3 : Hid (Below W.heap.size W w3) := B1.out.trans ((B2.out.trans (G3.out.mono B2.out.size)).mono B1.out.size)
  cases z with
  | false =>
    have x0 := block_cell D1.out 0
    have x1 := block_cell D1.out 1
    have f0 := block_free D1.out 0
    have f1 := block_free D1.out 1
    simp at x0 x1
    have hlt := block_lt D1.out
    have FIN : Hid (∀ u0 u1, Below W.heap.size W ((w3.setCell ⟨W.heap.size, 0, none⟩ u0).setCell ⟨W.heap.size, 1, none⟩ u1)) := fun u0 u1 => (B3.out.setCell (p := ⟨W.heap.size, 0, none⟩) (Nat.le_refl _) _).setCell (p := ⟨W.heap.size, 1, none⟩) (Nat.le_refl _) _
    go_wp2
    refine bodyPost_ret (v := .tuple #[.agg #[.int .u64 0, .slice none 0 0], .bool false]) (by simp [results, Try.results12, go_sem, x0, x1]) rfl ⟨none, 0, 0, rfl, ⟨none, 0, [], 0, 0, rfl, rfl, Rqs.nil _ _ _, by decide⟩, FIN.out _ _⟩
  | true =>
    have t3 := block_cell D2.out 3
    have t4 := block_cell D2.out 4
    simp at t3 t4
    go_wp2_with fail
    refine (HTW.out w3 G3.out).mono ?_
    rintro e w4 ⟨ao, m', cap, rfl, G4⟩
    clear t3 t4 HTW
    have E1 : Hid (w4.heap[W.heap.size]? = some (.cells #[.int .u64 0, .slice none 0 0] 43 (0, 0))) := (G4.out.2.block _ (block_lt D1.out)).trans D1.out
    have x0 := block_cell E1.out 0
    have x1 := block_cell E1.out 1
    have f0 := block_free E1.out 0
    have f1 := block_free E1.out 1
    simp at x0 x1
    have hlt := block_lt E1.out
    have B4 : Hid (Below W.heap.size W w4) := B3.out.trans (G4.out.2.mono B3.out.size)
    have FIN : Hid (∀ u0 u1, BtOk ((w4.setCell ⟨W.heap.size, 0, none⟩ u0).setCell ⟨W.heap.size, 1, none⟩ u1) st (.slice ao m' cap) rv ∧ Below W.heap.size W ((w4.setCell ⟨W.heap.size, 0, none⟩ u0).setCell ⟨W.heap.size, 1, none⟩ u1)) := fun u0 u1 => ⟨BtOk.set G4.out.1 E1.out u0 u1, (B4.out.setCell (p := ⟨W.heap.size, 0, none⟩) (Nat.le_refl _) _).setCell (p := ⟨W.heap.size, 1, none⟩) (Nat.le_refl _) _⟩
    go_wp2
    refine bodyPost_ret (v := .tuple #[.agg #[.int .u64 (st : Nat), .slice ao m' cap], .bool true]) (by simp [results, Try.results12, go_sem, x0, x1]) rfl ⟨ao, m', cap, rfl, FIN.out _ _⟩
end Go.Proofs.Ytojknconkmplkaa
