import Derived.Test.YthfbimbadkmhhaaMIA
namespace Go.Proofs.Ythfbimbadkmhhaa
open Go.RowKit Crc

/-- A lent request: its command lies in a block of its own, with two marks behind. -/
structure Lq (lo hi : Nat) (w : World) (r : Rq) : Prop where
  hc : r.cl < 18446744073709551616
  hs : r.sq < 18446744073709551616
  hn : r.cn = r.C.length
  hcc : r.cc = r.cn + 2
  hle : r.cn ≤ 140737488355328
  h8 : ∀ x ∈ r.C, x < 256
  bk : ∃ g, r.co = some ⟨g, 0, none⟩ ∧ g < hi ∧ w.ownsRow lo 5 1 (.slice (some ⟨g, 0, none⟩) (r.cn + 2) (r.cn + 2)) (r.cn + 2) (vals (r.C ++ [160, 161]))
theorem Lq.fe {lo hi hi' : Nat} {w w' : World} {r : Rq} {T : Nat → Prop} (h : Lq lo hi w r) (f : Fe w w' T) (hh : hi ≤ hi') (hn : ∀ b cur, w.heap[b]? = some (.cells cur 5 (0, 0)) → lo ≤ b → b < hi → ¬ T b) : Lq lo hi' w' r := by
  obtain ⟨g, e, hg, ho⟩ := h.bk
  refine ⟨h.hc, h.hs, h.hn, h.hcc, h.hle, h.h8, g, e, by omega, row_fe ho f (fun b e2 => ?_)⟩
  have e3 : g = b := by simpa [Value.ownBlock] using e2
  subst e3
  rcases ho.2 with ⟨e, _⟩ | ⟨g', cap, cur, e, hb, hgg, _⟩
  · cases e
  · simp only [Value.slice.injEq, Option.some.injEq, Addr.mk.injEq] at e
    obtain ⟨⟨rfl, _⟩, _⟩ := e
    exact hn _ _ hgg hb hg
theorem row_less {w : World} {lo g n m cap : Nat} {B : List Nat} (h : w.ownsRow lo 5 1 (.slice (some ⟨g, 0, none⟩) n cap) n (vals B)) (hm : m ≤ n) : w.ownsRow lo 5 1 (.slice (some ⟨g, 0, none⟩) m cap) m (vals (B.take m)) := by
  rcases h.2 with ⟨e, _⟩ | ⟨g', cap', cur, e, hb, hgg, h4, h5, h6, h7⟩
  · cases e
  · simp only [Value.slice.injEq, Option.some.injEq, Addr.mk.injEq] at e
    obtain ⟨⟨rfl, _⟩, _, rfl⟩ := e
    have hl : B.length = n := by have := h.1; simpa [vals] using this
    refine ⟨by simp [vals]; omega, .inr ⟨_, _, cur, rfl, hb, hgg, by omega, h5, h6, ?_⟩⟩
    rw [Nat.mul_one] at h7 ⊢
    have e2 : vals (B.take m) = (vals B).take m := by simp [vals]
    rw [e2, ← h7, List.take_take, Nat.min_eq_left hm]
theorem Lq.ok {lo hi : Nat} {w : World} {r : Rq} (h : Lq lo hi w r) : r.Ok w.heap.size w := by
  obtain ⟨g, e, hg, ho⟩ := h.bk
  have ho' : Owns lo w (.slice (some ⟨g, 0, none⟩) r.C.length (r.cn + 2)) r.C := by
    have h1 := row_less (m := r.C.length) ho (by have := h.hn; omega)
    have e2 : (r.C ++ [160, 161]).take r.C.length = r.C := by simp
    rw [e2] at h1
    exact ⟨h1, h.h8, by rw [← h.hn]; exact h.hle⟩
  obtain ⟨ao, cap, e3, hs, _⟩ := ho'.form
  simp only [Value.slice.injEq] at e3
  obtain ⟨rfl, _, rfl⟩ := e3
  rw [← h.hn, ← e, ← h.hcc] at hs
  exact ⟨h.hc, h.hs, hs⟩
/-- The request behind a lent list's end. -/
def mark77 : Rq := ⟨77, 78, none, 0, 0, []⟩
/-- A lent batch's list, with the mark behind its end. -/
structure Lb (lo hi : Nat) (w : World) (R n : Nat) (rs : List Rq) : Prop where
  row : w.ownsRow lo 37 3 (.slice (some ⟨R, 0, none⟩) (n + 1) (n + 1)) (n + 1) (rcells (rs ++ [mark77]))
  len : rs.length = n
  le : n ≤ 3518437208883
  hR : R < hi
  lq : ∀ r ∈ rs, Lq lo hi w r
theorem Lb.fe {lo hi R n : Nat} {w w' : World} {rs : List Rq} {T : Nat → Prop} (h : Lb lo hi w R n rs) (f : Fe w w' T) (hn : ∀ b, lo ≤ b → b < hi → ¬ T b) : Lb lo hi w' R n rs := by
  obtain ⟨cur, hg, _, _, _, hb, _⟩ := row_parts h.row
  exact ⟨row_fe h.row f (fun b e => by
    have e3 : R = b := by simpa [Value.ownBlock] using e
    subst e3
    exact hn _ hb h.hR), h.len, h.le, h.hR, fun r hr => (h.lq r hr).fe f (Nat.le_refl _) (fun b _ _ h1 h2 => hn b h1 h2)⟩
theorem Lb.rqs {lo hi R n : Nat} {w : World} {rs : List Rq} (h : Lb lo hi w R n rs) : Rqs w.heap.size w (some ⟨R, 0, none⟩) rs R 0 := by
  obtain ⟨cur, hg, h6, h4, h5, hb, _, h7⟩ := row_parts h.row
  have hl := h.len
  refine ⟨fun _ => rfl, fun _ => block_lt hg, by rw [hl]; exact h.le, fun i r hi j v hv => ?_, fun r hr => (h.lq r hr).ok⟩
  have hin : i < n := by rw [← hl]; exact (List.getElem?_eq_some_iff.1 hi).1
  have h1 := rcells_at (rs ++ [mark77]) i r (by rw [List.getElem?_append_left (by omega)]; exact hi) j v hv
  have hj : j < 3 := by
    have := (Array.getElem?_eq_some_iff.1 hv).1
    simpa [Rq.cells] using this
  rw [← h7, List.getElem?_take, if_pos (by omega), Array.getElem?_toList] at h1
  rw [Nat.zero_add, block_cell hg, h1]
/-- Amid a lending: the first k are lent. -/
structure Ln (w : World) (st : Nat) (ro : Option Addr) (n rc : Nat) (rs : List Rq) (R cb k : Nat) (rs1 : List Rq) (V : World) : Prop where
  bel : Below w.heap.size w V
  bP : V.heap[w.heap.size]? = some (.cells #[.int .u64 (st : Nat), .slice ro n rc] 40 (0, 0))
  bR : V.heap[w.heap.size + 1]? = some (.cells #[.int .u64 0, .slice none 0 0] 40 (0, 0))
  bC : V.heap[cb]? = some (.cells #[.int .u64 (st : Nat), .slice (some ⟨R, 0, none⟩) k (n + 1)] 40 (0, 0))
  hcb : w.heap.size + 2 ≤ cb
  row : V.ownsRow w.heap.size 37 3 (.slice (some ⟨R, 0, none⟩) k (n + 1)) k (rcells rs1)
  len : rs1.length = k
  val : rs1.map Rq.val = (rs.take k).map Rq.val
  lq : ∀ r ∈ rs1, Lq w.heap.size V.heap.size V r
theorem Ln.below {w : World} {st : Nat} {ro : Option Addr} {n rc : Nat} {rs : List Rq} {R cb k : Nat} {rs1 : List Rq} {V V' : World} (h : Ln w st ro n rc rs R cb k rs1 V) (hb : Below V.heap.size V V') : Ln w st ro n rc rs R cb k rs1 V' :=
  ⟨h.bel.trans (hb.mono h.bel.size), (hb.block _ (block_lt h.bP)).trans h.bP, (hb.block _ (block_lt h.bR)).trans h.bR, (hb.block _ (block_lt h.bC)).trans h.bC, h.hcb, row_fe h.row (Fe.below hb (fun _ => False)) (fun _ _ e => e), h.len, h.val, fun r hr => (h.lq r hr).fe (Fe.below hb (fun _ => False)) hb.size (fun _ _ _ _ _ e => e)⟩
/-- What an append to the lent list leaves, and the store behind it. -/
theorem Ln.grow {w : World} {st : Nat} {ro : Option Addr} {n rc : Nat} {rs : List Rq} {R cb k : Nat} {rs1 : List Rq} {V w3 : World} (h : Ln w st ro n rc rs R cb k rs1 V) (hg : V.grownBy w3 (some R)) (u : Value) :
    w3.heap[cb]? = some (.cells #[.int .u64 (st : Nat), .slice (some ⟨R, 0, none⟩) k (n + 1)] 40 (0, 0)) ∧ Fe V (w3.setCell ⟨cb, 1, none⟩ u) (fun b => b = R ∨ b = cb) ∧ R ≠ cb ∧ (w3.setCell ⟨cb, 1, none⟩ u).heap[cb]? = some (.cells #[.int .u64 (st : Nat), u] 40 (0, 0)) ∧ Below w.heap.size w (w3.setCell ⟨cb, 1, none⟩ u) ∧ (w3.setCell ⟨cb, 1, none⟩ u).heap[w.heap.size]? = some (.cells #[.int .u64 (st : Nat), .slice ro n rc] 40 (0, 0)) ∧ (w3.setCell ⟨cb, 1, none⟩ u).heap[w.heap.size + 1]? = some (.cells #[.int .u64 0, .slice none 0 0] 40 (0, 0)) ∧ ∀ r ∈ rs1, Lq w.heap.size (w3.setCell ⟨cb, 1, none⟩ u).heap.size (w3.setCell ⟨cb, 1, none⟩ u) r := by
  obtain ⟨cur, hgR, _, _, _, hbR, _⟩ := row_parts h.row
  have ne : ∀ b cs, V.heap[b]? = some (.cells cs 40 (0, 0)) → b ≠ R := fun b cs hb e => by
    subst e
    rw [hgR] at hb
    cases hb
  have hcb := h.hcb
  have nC := ne _ _ h.bC
  have c3 := (hg.block _ (block_lt h.bC) (by simpa using nC)).trans h.bC
  have F1 : Fe V w3 (fun b => b = R ∨ b = cb) := Fe.grown hg (fun y e => by cases e; exact .inl rfl)
  have F2 : Fe w3 (w3.setCell ⟨cb, 1, none⟩ u) (fun b => b = R ∨ b = cb) := Fe.grown (grown_set w3 cb 1 u) (fun y e => by cases e; exact .inr rfl)
  have F : Fe V (w3.setCell ⟨cb, 1, none⟩ u) (fun b => b = R ∨ b = cb) := F1.trans F2 (fun _ _ e => e)
  refine ⟨c3, F, fun e => nC e.symm, ?_, ?_, ?_, ?_, ?_⟩
  · rw [heap_setCell_same _ cb 1 _ _ _ c3]; rfl
  · refine h.bel.trans (F.toBelow _ h.bel.size ?_)
    rintro j (e | e)
    · rw [e]; exact hbR
    · rw [e]; omega
  · exact (F.block _ (block_lt h.bP) (fun e => e.elim (ne _ _ h.bP) (fun e => by omega))).trans h.bP
  · exact (F.block _ (block_lt h.bR) (fun e => e.elim (ne _ _ h.bR) (fun e => by omega))).trans h.bR
  · intro r hr
    refine (h.lq r hr).fe F F.size (fun b cs hb _ _ e => ?_)
    rcases e with e | e
    · subst e; rw [hgR] at hb; cases hb
    · subst e; rw [h.bC] at hb; cases hb
theorem Ln.next {w : World} {st : Nat} {ro : Option Addr} {n rc : Nat} {rs : List Rq} {R cb k : Nat} {rs1 : List Rq} {V V1 w1 w3 : World} {o1 o2 : Obj} {x : Value} {g : Nat} {cl sq : Nat} {co : Option Addr} {cn cc : Nat} {C : List Nat} (h : Ln w st ro n rc rs R cb k rs1 V) (hr : rs[k]? = some ⟨cl, sq, co, cn, cc, C⟩) (hok : (Rq.mk cl sq co cn cc C).Ok w.heap.size w)
    (hV1 : V.alloc o1 = V1) (b1 : Below V1.heap.size V1 w1) (own : w1.ownsRow V1.heap.size 5 1 (.slice (some ⟨g, 0, none⟩) (cn + 2) (cn + 2)) (cn + 2) (vals (C ++ [160, 161])))
    (hg : ((w1.setCell ⟨V.heap.size, 2, none⟩ x).alloc o2).grownBy w3 (some R))
    (ho : w3.ownsRow w.heap.size 37 3 (.slice (some ⟨R, 0, none⟩) (k + 1) (n + 1)) (k + 1) (rcells rs1 ++ [.int .u64 (cl : Int), .int .u64 (sq : Int), .slice (some ⟨g, 0, none⟩) cn (cn + 2)])) :
    w3.heap[cb]? = some (.cells #[.int .u64 (st : Nat), .slice (some ⟨R, 0, none⟩) k (n + 1)] 40 (0, 0)) ∧ Ln w st ro n rc rs R cb (k + 1) (rs1 ++ [⟨cl, sq, some ⟨g, 0, none⟩, cn, cn + 2, C⟩]) (w3.setCell ⟨cb, 1, none⟩ (.slice (some ⟨R, 0, none⟩) (k + 1) (n + 1))) := by
  have s1 : V1.heap.size = V.heap.size + 1 := by rw [← hV1]; simp
  have B1 : Below V.heap.size V V1 := by rw [← hV1]; exact below_alloc1 V _
  have B2 : Below V.heap.size V w1 := B1.trans (b1.mono B1.size)
  have B3 : Below V.heap.size V ((w1.setCell ⟨V.heap.size, 2, none⟩ x).alloc o2) := by
    have := B2.setCell (p := ⟨V.heap.size, 2, none⟩) (Nat.le_refl _) x
    exact this.alloc this.size o2
  obtain ⟨cur, hgR, _, _, _, hbR, _⟩ := row_parts h.row
  have hRV := block_lt hgR
  have hCV := block_lt h.bC
  obtain ⟨c3, F, nRC, c4, bel, bP, bR, lq⟩ := (h.below B3).grow hg (.slice (some ⟨R, 0, none⟩) (k + 1) (n + 1))
  have own0 := own.lt g rfl
  refine ⟨c3, bel, bP, bR, c4, h.hcb, ?_, by simp [h.len], ?_, ?_⟩
  · rw [rcells_snoc]
    exact ho.kept (grown_set w3 cb 1 _) (.inr (by simpa [Value.ownBlock] using nRC))
  · rw [List.map_append, h.val, List.take_add_one, hr]
    simp [Rq.val]
  · intro r hr'
    rcases List.mem_append.1 hr' with hr' | hr'
    · exact lq r hr'
    · simp at hr'
      subst hr'
      have hs := hok.hC
      obtain ⟨t1, t2, t3, t4, _⟩ := hs
      have L0 : Lq w.heap.size w1.heap.size w1 ⟨cl, sq, some ⟨g, 0, none⟩, cn, cn + 2, C⟩ := ⟨hok.hc, hok.hs, t1, rfl, t3, t4, g, rfl, own0.2, by
        refine ⟨own.1, ?_⟩
        rcases own.2 with ⟨e, _⟩ | ⟨g', cap, cur, e, hb, rest⟩
        · cases e
        · exact .inr ⟨g', cap, cur, e, by have := h.bel.size; omega, rest⟩⟩
      have F3 : Fe w1 ((w1.setCell ⟨V.heap.size, 2, none⟩ x).alloc o2) (fun b => b = V.heap.size) := (Fe.grown (grown_set w1 V.heap.size 2 x) (T := fun b => b = V.heap.size) (fun y e => by cases e; rfl)).trans (Fe.grown (World.grownBy_alloc _ o2 none) (T := fun b => b = V.heap.size) (fun y e => by cases e)) (fun _ _ e => e)
      have F4 := F3.wide (S := fun b => b < V1.heap.size) (fun b e => by omega)
      have F5 : Fe w1 (w3.setCell ⟨cb, 1, none⟩ (.slice (some ⟨R, 0, none⟩) (k + 1) (n + 1))) (fun b => b < V1.heap.size) := F4.trans (F.wide (S := fun b => b < V1.heap.size) (fun b e => by rcases e with e | e <;> omega)) (fun _ _ e => e)
      obtain ⟨g', e', hg', ho'⟩ := L0.bk
      have e2 : g = g' := by simpa using e'
      subst e2
      refine ⟨L0.hc, L0.hs, L0.hn, L0.hcc, L0.hle, L0.h8, g, rfl, by have := F5.size; omega, row_fe ho' F5 (fun b e e3 => ?_)⟩
      have e4 : g = b := by simpa [Value.ownBlock] using e
      omega
/-- The last append: the mark. -/
theorem Ln.last {w : World} {st : Nat} {ro : Option Addr} {n rc : Nat} {rs : List Rq} {R cb : Nat} {rs1 : List Rq} {V w3 : World} {o2 : Obj} (h : Ln w st ro n rc rs R cb n rs1 V) (hle : n ≤ 3518437208883) (hl : rs.length = n) (hg : (V.alloc o2).grownBy w3 (some R))
    (ho : w3.ownsRow w.heap.size 37 3 (.slice (some ⟨R, 0, none⟩) (n + 1) (n + 1)) (n + 1) (rcells rs1 ++ [.int .u64 77, .int .u64 78, .slice none 0 0])) :
    w3.heap[cb]? = some (.cells #[.int .u64 (st : Nat), .slice (some ⟨R, 0, none⟩) n (n + 1)] 40 (0, 0)) ∧ (w3.heap[w.heap.size]? = some (.cells #[.int .u64 (st : Nat), .slice ro n rc] 40 (0, 0)) ∧ w3.heap[w.heap.size + 1]? = some (.cells #[.int .u64 0, .slice none 0 0] 40 (0, 0)) ∧ w.heap.size + 2 ≤ cb) ∧ rs1.map Rq.val = rs.map Rq.val ∧ ∀ u u' a b, Below w.heap.size w ((((w3.setCell ⟨cb, 1, none⟩ u).setCell ⟨cb, 1, none⟩ u').setCell ⟨w.heap.size + 1, 0, none⟩ a).setCell ⟨w.heap.size + 1, 1, none⟩ b) ∧ Lb w.heap.size w3.heap.size ((((w3.setCell ⟨cb, 1, none⟩ u).setCell ⟨cb, 1, none⟩ u').setCell ⟨w.heap.size + 1, 0, none⟩ a).setCell ⟨w.heap.size + 1, 1, none⟩ b) R n rs1 := by
  have hA := h.below (below_alloc1 V o2)
  have bv := fun u => hA.grow hg u
  obtain ⟨c3, _, nRC, _⟩ := bv (.slice none 0 0)
  have hcb := h.hcb
  have bP3 : ∀ (b : Nat) (cs : Array Value), (V.alloc o2).heap[b]? = some (Obj.cells cs 40 (0, 0)) → w3.heap[b]? = some (Obj.cells cs 40 (0, 0)) := fun b cs hb => by
    obtain ⟨cur, hgR, _⟩ := row_parts hA.row
    refine (hg.block _ (block_lt hb) (fun e => ?_)).trans hb
    have e2 : b = R := by simpa using e
    subst e2
    rw [hgR] at hb
    cases hb
  have p3 := bP3 _ _ hA.bP
  have r3 := bP3 _ _ hA.bR
  have hv : rs1.map Rq.val = rs.map Rq.val := by rw [h.val, List.take_of_length_le (by omega)]
  refine ⟨c3, ⟨p3, r3, hcb⟩, hv, fun u u' a b => ?_⟩
  obtain ⟨_, F, _, c4, bel, _, _, lq⟩ := bv u
  have F2 : Fe (w3.setCell ⟨cb, 1, none⟩ u) ((((w3.setCell ⟨cb, 1, none⟩ u).setCell ⟨cb, 1, none⟩ u').setCell ⟨w.heap.size + 1, 0, none⟩ a).setCell ⟨w.heap.size + 1, 1, none⟩ b) (fun q => q = cb ∨ q = w.heap.size + 1) :=
    ((Fe.grown (grown_set _ cb 1 u') (T := fun q => q = cb ∨ q = w.heap.size + 1) (fun y e => by cases e; exact .inl rfl)).trans (Fe.grown (grown_set _ (w.heap.size + 1) 0 a) (T := fun q => q = cb ∨ q = w.heap.size + 1) (fun y e => by cases e; exact .inr rfl)) (fun _ _ e => e)).trans (Fe.grown (grown_set _ (w.heap.size + 1) 1 b) (T := fun q => q = cb ∨ q = w.heap.size + 1) (fun y e => by cases e; exact .inr rfl)) (fun _ _ e => e)
  have F1 : Fe w3 (w3.setCell ⟨cb, 1, none⟩ u) (fun q => q = cb ∨ q = w.heap.size + 1) := Fe.grown (grown_set _ cb 1 u) (fun y e => by cases e; exact .inl rfl)
  have F3 := F1.trans F2 (fun _ _ e => e)
  have c5 : (w3.setCell ⟨cb, 1, none⟩ u).heap[cb]? = some (.cells #[.int .u64 (st : Nat), u] 40 (0, 0)) := c4
  have r5 : (w3.setCell ⟨cb, 1, none⟩ u).heap[w.heap.size + 1]? = some (.cells #[.int .u64 0, .slice none 0 0] 40 (0, 0)) := (Fe.grown (grown_set w3 cb 1 u) (T := fun q => q = cb) (fun y e => by cases e; rfl)).block _ (block_lt r3) (by omega) |>.trans r3
  refine ⟨bel.trans (F2.toBelow _ bel.size ?_), ?_, h.len, hle, by have := ho.lt R rfl; omega, fun r hr => (lq r hr).fe F2 (by simp) ?_⟩
  · rintro j (e | e) <;> omega
  · rw [rcells_snoc]
    refine row_fe ho F3 (fun b e e2 => ?_)
    have e4 : R = b := by simpa [Value.ownBlock] using e
    subst e4
    obtain ⟨cur, hgR, _⟩ := row_parts ho
    rcases e2 with e2 | e2
    · exact nRC e2
    · rw [← e2, hgR] at r3; cases r3
  · intro q cur hq _ _ e2
    rcases e2 with e2 | e2
    · rw [e2, c5] at hq; cases hq
    · rw [e2, r5] at hq; cases hq
end Go.Proofs.Ythfbimbadkmhhaa
