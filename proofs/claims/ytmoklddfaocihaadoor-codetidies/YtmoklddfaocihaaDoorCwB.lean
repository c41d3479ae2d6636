import Derived.Test.YtmoklddfaocihaaDoorCwA
import Derived.Deep.DeepCutAuto
namespace Go.Proofs.YtmoklddfaocihaaDoor
open Go.RowKit

theorem own_typ2 {w : World} {base n s : Nat} {t : TypeId} {v : Value} {xs : List Value} (h : w.ownsRow base t s v n xs) {b : Nat} (e : v.ownBlock = some b) : base ≤ b ∧ ∃ cs : Array Value, w.heap[b]? = some (.cells cs t (0, 0)) := by
  refine ⟨(h.lt b e).1, ?_⟩
  rcases h.2 with ⟨e3, _⟩ | ⟨g3, cap, cur, e3, _, hc, _⟩
  · rw [e3] at e; cases e
  · rw [e3] at e
    cases e
    exact ⟨_, hc⟩
theorem own_off2 {w : World} {base n s : Nat} {t t' : TypeId} {v : Value} {xs : List Value} (h : w.ownsRow base t s v n xs) (hne : t ≠ t') {b : Nat} {cs : Array Value} {z : Nat × Nat} (e : w.heap[b]? = some (.cells cs t' z)) : v.ownBlock ≠ some b := fun e2 => by
  obtain ⟨_, cs', h'⟩ := own_typ2 h e2
  rw [e] at h'
  cases h'
  exact hne rfl
theorem own_val2 {w : World} {base n s : Nat} {t : TypeId} {v : Value} {xs : List Value} (h : w.ownsRow base t s v n xs) : ∃ ao cap, v = .slice ao n cap := by
  rcases h.2 with ⟨e3, e0⟩ | ⟨g3, cap, cur, e3, _⟩
  · exact ⟨none, 0, by rw [e3, e0]⟩
  · exact ⟨_, cap, e3⟩
/-- The world of lend. -/
structure Ld (W : World) (g : Pg) (p : Pv) (rb cb : Nat) (va vb vc : Value) (ja jb jc : Nat) (xa xb xc : List Value) (w : World) : Prop where
  prg : w.heap[W.heap.size]? = some (.cells (g.cs p).toArray 27 (0, 0))
  res : w.heap[rb]? = some (.cells #[.slice none 0 0, .slice none 0 0, .int .i64 0, .int .i64 0, .int .i64 0, .int .i64 0, .int .i64 0, .int .i64 0, .slice none 0 0] 27 (0, 0))
  box : w.heap[cb]? = some (.cells #[va, vb, .int .i64 (p.en 0), .int .i64 (p.en 1), .int .i64 (p.en 2), .int .i64 (p.en 3), .int .i64 (p.en 4), .int .i64 (p.en 5), vc] 27 (0, 0))
  qa : w.ownsRow W.heap.size 42 1 va ja xa
  qb : w.ownsRow W.heap.size 3 1 vb jb xb
  qc : w.ownsRow W.heap.size 83 2 vc jc xc
  bel : Below W.heap.size W w
  lc : W.heap.size ≤ cb
  np : cb ≠ W.heap.size
  nr : cb ≠ rb
theorem Ld.drew {W : World} {g : Pg} {p : Pv} {rb cb : Nat} {va vb vc : Value} {ja jb jc : Nat} {xa xb xc : List Value} {w w' : World} (h : Ld W g p rb cb va vb vc ja jb jc xa xb xc w) (hb : Below w.heap.size w w') : Ld W g p rb cb va vb vc ja jb jc xa xb xc w' :=
  ⟨(hb.block _ (block_lt h.prg)).trans h.prg, (hb.block _ (block_lt h.res)).trans h.res, (hb.block _ (block_lt h.box)).trans h.box, row_quietT h.qa (grown_of_below hb none), row_quietT h.qb (grown_of_below hb none), row_quietT h.qc (grown_of_below hb none), h.bel.trans (hb.mono h.bel.size), h.lc, h.np, h.nr⟩
theorem Ld.stepA {W : World} {g : Pg} {p : Pv} {rb cb : Nat} {va vb vc : Value} {ja jb jc : Nat} {xa xb xc : List Value} {w w' : World} {o : Obj} (h : Ld W g p rb cb va vb vc ja jb jc xa xb xc w) {va' : Value} {y : Value} (ho : w'.ownsRow W.heap.size 42 1 va' (ja + 1) (xa ++ [y])) (hg : (w.alloc o).grownBy w' va.ownBlock) :
    Ld W g p rb cb va' vb vc (ja + 1) jb jc (xa ++ [y]) xb xc (w'.setCell ⟨cb, 0, none⟩ va') ∧ w'.heap[cb]? = some (.cells #[va, vb, .int .i64 (p.en 0), .int .i64 (p.en 1), .int .i64 (p.en 2), .int .i64 (p.en 3), .int .i64 (p.en 4), .int .i64 (p.en 5), vc] 27 (0, 0)) ∧ w'.heap[W.heap.size]? = some (.cells (g.cs p).toArray 27 (0, 0)) ∧ Below W.heap.size W w' := by
  have al := below_alloc1 w o
  have K : ∀ {b : Nat} {cs : Array Value} {t' : TypeId} {z : Nat × Nat}, (42 : TypeId) ≠ t' → w.heap[b]? = some (.cells cs t' z) → w'.heap[b]? = some (.cells cs t' z) := fun hne e =>
    (hg.block _ (Nat.lt_of_lt_of_le (block_lt e) al.size) (fun x => own_off2 h.qa hne e x.symm)).trans ((al.block _ (block_lt e)).trans e)
  have kw := K (by decide) h.box
  have kp := K (by decide) h.prg
  have kr := K (by decide) h.res
  have G := grown_set w' cb 0 va'
  have s1 := heap_setCell_same w' cb 0 _ _ va' kw
  refine ⟨⟨(G.block _ (block_lt kp) (by simpa using fun e => h.np e.symm)).trans kp, (G.block _ (block_lt kr) (by simpa using fun e => h.nr e.symm)).trans kr, by simpa using s1, ?_, ?_, ?_, ?_, h.lc, h.np, h.nr⟩, kw, kp, (h.bel.alloc h.bel.size o).grown hg (by have := h.bel.size; simp; omega) (fun b e => (h.qa.lt b e).1)⟩
  · exact ho.kept G (.inr (own_off2 ho (by decide) kw))
  · have r1 := row_quietT h.qb (World.grownBy_alloc w o none)
    have r2 : w'.ownsRow W.heap.size 3 1 vb jb xb := by
      refine r1.kept hg ?_
      cases e : vb.ownBlock with
      | none => exact .inl rfl
      | some b =>
        obtain ⟨_, cs, hc⟩ := own_typ2 h.qb e
        exact .inr (fun x => own_off2 h.qa (by decide) hc x.symm)
    exact r2.kept G (.inr (own_off2 r2 (by decide) kw))
  · have r1 := row_quietT h.qc (World.grownBy_alloc w o none)
    have r2 : w'.ownsRow W.heap.size 83 2 vc jc xc := by
      refine r1.kept hg ?_
      cases e : vc.ownBlock with
      | none => exact .inl rfl
      | some b =>
        obtain ⟨_, cs, hc⟩ := own_typ2 h.qc e
        exact .inr (fun x => own_off2 h.qa (by decide) hc x.symm)
    exact r2.kept G (.inr (own_off2 r2 (by decide) kw))
  · exact ((h.bel.alloc h.bel.size o).grown hg (by have := h.bel.size; simp; omega) (fun b e => (h.qa.lt b e).1)).setCell (p := ⟨cb, 0, none⟩) h.lc va'
theorem Ld.stepB {W : World} {g : Pg} {p : Pv} {rb cb : Nat} {va vb vc : Value} {ja jb jc : Nat} {xa xb xc : List Value} {w w' : World} {o : Obj} (h : Ld W g p rb cb va vb vc ja jb jc xa xb xc w) {vb' : Value} {y : Value} (ho : w'.ownsRow W.heap.size 3 1 vb' (jb + 1) (xb ++ [y])) (hg : (w.alloc o).grownBy w' vb.ownBlock) :
    Ld W g p rb cb va vb' vc ja (jb + 1) jc xa (xb ++ [y]) xc (w'.setCell ⟨cb, 1, none⟩ vb') ∧ w'.heap[cb]? = some (.cells #[va, vb, .int .i64 (p.en 0), .int .i64 (p.en 1), .int .i64 (p.en 2), .int .i64 (p.en 3), .int .i64 (p.en 4), .int .i64 (p.en 5), vc] 27 (0, 0)) ∧ w'.heap[W.heap.size]? = some (.cells (g.cs p).toArray 27 (0, 0)) ∧ Below W.heap.size W w' := by
  have al := below_alloc1 w o
  have K : ∀ {b : Nat} {cs : Array Value} {t' : TypeId} {z : Nat × Nat}, (3 : TypeId) ≠ t' → w.heap[b]? = some (.cells cs t' z) → w'.heap[b]? = some (.cells cs t' z) := fun hne e =>
    (hg.block _ (Nat.lt_of_lt_of_le (block_lt e) al.size) (fun x => own_off2 h.qb hne e x.symm)).trans ((al.block _ (block_lt e)).trans e)
  have kw := K (by decide) h.box
  have kp := K (by decide) h.prg
  have kr := K (by decide) h.res
  have G := grown_set w' cb 1 vb'
  have s1 := heap_setCell_same w' cb 1 _ _ vb' kw
  refine ⟨⟨(G.block _ (block_lt kp) (by simpa using fun e => h.np e.symm)).trans kp, (G.block _ (block_lt kr) (by simpa using fun e => h.nr e.symm)).trans kr, by simpa using s1, ?_, ?_, ?_, ?_, h.lc, h.np, h.nr⟩, kw, kp, (h.bel.alloc h.bel.size o).grown hg (by have := h.bel.size; simp; omega) (fun b e => (h.qb.lt b e).1)⟩
  · have r1 := row_quietT h.qa (World.grownBy_alloc w o none)
    have r2 : w'.ownsRow W.heap.size 42 1 va ja xa := by
      refine r1.kept hg ?_
      cases e : va.ownBlock with
      | none => exact .inl rfl
      | some b =>
        obtain ⟨_, cs, hc⟩ := own_typ2 h.qa e
        exact .inr (fun x => own_off2 h.qb (by decide) hc x.symm)
    exact r2.kept G (.inr (own_off2 r2 (by decide) kw))
  · exact ho.kept G (.inr (own_off2 ho (by decide) kw))
  · have r1 := row_quietT h.qc (World.grownBy_alloc w o none)
    have r2 : w'.ownsRow W.heap.size 83 2 vc jc xc := by
      refine r1.kept hg ?_
      cases e : vc.ownBlock with
      | none => exact .inl rfl
      | some b =>
        obtain ⟨_, cs, hc⟩ := own_typ2 h.qc e
        exact .inr (fun x => own_off2 h.qb (by decide) hc x.symm)
    exact r2.kept G (.inr (own_off2 r2 (by decide) kw))
  · exact ((h.bel.alloc h.bel.size o).grown hg (by have := h.bel.size; simp; omega) (fun b e => (h.qb.lt b e).1)).setCell (p := ⟨cb, 1, none⟩) h.lc vb'
theorem Ld.stepC {W : World} {g : Pg} {p : Pv} {rb cb : Nat} {va vb vc : Value} {ja jb jc : Nat} {xa xb xc : List Value} {w w' : World} {o : Obj} (h : Ld W g p rb cb va vb vc ja jb jc xa xb xc w) {vc' : Value} {y z : Value} (ho : w'.ownsRow W.heap.size 83 2 vc' (jc + 1) (xc ++ [y, z])) (hg : (w.alloc o).grownBy w' vc.ownBlock) :
    Ld W g p rb cb va vb vc' ja jb (jc + 1) xa xb (xc ++ [y, z]) (w'.setCell ⟨cb, 8, none⟩ vc') ∧ w'.heap[cb]? = some (.cells #[va, vb, .int .i64 (p.en 0), .int .i64 (p.en 1), .int .i64 (p.en 2), .int .i64 (p.en 3), .int .i64 (p.en 4), .int .i64 (p.en 5), vc] 27 (0, 0)) ∧ w'.heap[W.heap.size]? = some (.cells (g.cs p).toArray 27 (0, 0)) ∧ Below W.heap.size W w' := by
  have al := below_alloc1 w o
  have K : ∀ {b : Nat} {cs : Array Value} {t' : TypeId} {z : Nat × Nat}, (83 : TypeId) ≠ t' → w.heap[b]? = some (.cells cs t' z) → w'.heap[b]? = some (.cells cs t' z) := fun hne e =>
    (hg.block _ (Nat.lt_of_lt_of_le (block_lt e) al.size) (fun x => own_off2 h.qc hne e x.symm)).trans ((al.block _ (block_lt e)).trans e)
  have kw := K (by decide) h.box
  have kp := K (by decide) h.prg
  have kr := K (by decide) h.res
  have G := grown_set w' cb 8 vc'
  have s1 := heap_setCell_same w' cb 8 _ _ vc' kw
  refine ⟨⟨(G.block _ (block_lt kp) (by simpa using fun e => h.np e.symm)).trans kp, (G.block _ (block_lt kr) (by simpa using fun e => h.nr e.symm)).trans kr, by simpa using s1, ?_, ?_, ?_, ?_, h.lc, h.np, h.nr⟩, kw, kp, (h.bel.alloc h.bel.size o).grown hg (by have := h.bel.size; simp; omega) (fun b e => (h.qc.lt b e).1)⟩
  · have r1 := row_quietT h.qa (World.grownBy_alloc w o none)
    have r2 : w'.ownsRow W.heap.size 42 1 va ja xa := by
      refine r1.kept hg ?_
      cases e : va.ownBlock with
      | none => exact .inl rfl
      | some b =>
        obtain ⟨_, cs, hc⟩ := own_typ2 h.qa e
        exact .inr (fun x => own_off2 h.qc (by decide) hc x.symm)
    exact r2.kept G (.inr (own_off2 r2 (by decide) kw))
  · have r1 := row_quietT h.qb (World.grownBy_alloc w o none)
    have r2 : w'.ownsRow W.heap.size 3 1 vb jb xb := by
      refine r1.kept hg ?_
      cases e : vb.ownBlock with
      | none => exact .inl rfl
      | some b =>
        obtain ⟨_, cs, hc⟩ := own_typ2 h.qb e
        exact .inr (fun x => own_off2 h.qc (by decide) hc x.symm)
    exact r2.kept G (.inr (own_off2 r2 (by decide) kw))
  · exact ho.kept G (.inr (own_off2 ho (by decide) kw))
  · exact ((h.bel.alloc h.bel.size o).grown hg (by have := h.bel.size; simp; omega) (fun b e => (h.qc.lt b e).1)).setCell (p := ⟨cb, 8, none⟩) h.lc vc'
/-- The base of it. -/
structure Lb (W : World) (g : Pg) (p : Pv) (rb : Nat) (w : World) : Prop where
  prg : w.heap[W.heap.size]? = some (.cells (g.cs p).toArray 27 (0, 0))
  res : w.heap[rb]? = some (.cells #[.slice none 0 0, .slice none 0 0, .int .i64 0, .int .i64 0, .int .i64 0, .int .i64 0, .int .i64 0, .int .i64 0, .slice none 0 0] 27 (0, 0))
  bel : Below W.heap.size W w
theorem Lb.next {W : World} {g : Pg} {p : Pv} {rb : Nat} {w w' : World} (h : Lb W g p rb w) (hb : Below w.heap.size w w') : Lb W g p rb w' :=
  ⟨(hb.block _ (block_lt h.prg)).trans h.prg, (hb.block _ (block_lt h.res)).trans h.res, h.bel.trans (hb.mono h.bel.size)⟩
theorem below_none9 {w w' : World} (h : w.grownBy w' none) : Below w.heap.size w w' := ⟨h.os, h.tape, h.output, h.size, fun k hk => h.block k hk (by simp)⟩
def set9 (w : World) (b : Nat) (v0 v1 v2 v3 v4 v5 v6 v7 v8 : Value) : World := ((((((((w.setCell ⟨b, 0, none⟩ v0).setCell ⟨b, 1, none⟩ v1).setCell ⟨b, 2, none⟩ v2).setCell ⟨b, 3, none⟩ v3).setCell ⟨b, 4, none⟩ v4).setCell ⟨b, 5, none⟩ v5).setCell ⟨b, 6, none⟩ v6).setCell ⟨b, 7, none⟩ v7).setCell ⟨b, 8, none⟩ v8
theorem set9_grown (w : World) (b : Nat) (v0 v1 v2 v3 v4 v5 v6 v7 v8 : Value) : w.grownBy (set9 w b v0 v1 v2 v3 v4 v5 v6 v7 v8) (some b) :=
  grown_tr (grown_tr (grown_tr (grown_tr (grown_tr (grown_tr (grown_tr (grown_tr (grown_set _ b 0 _) (grown_set _ b 1 _)) (grown_set _ b 2 _)) (grown_set _ b 3 _)) (grown_set _ b 4 _)) (grown_set _ b 5 _)) (grown_set _ b 6 _)) (grown_set _ b 7 _)) (grown_set _ b 8 _)
theorem set9_at {w : World} {b : Nat} {x0 x1 x2 x3 x4 x5 x6 x7 x8 : Value} {t : TypeId} (h : w.heap[b]? = some (.cells #[x0, x1, x2, x3, x4, x5, x6, x7, x8] t (0, 0))) (v0 v1 v2 v3 v4 v5 v6 v7 v8 : Value) :
    (set9 w b v0 v1 v2 v3 v4 v5 v6 v7 v8).heap[b]? = some (.cells #[v0, v1, v2, v3, v4, v5, v6, v7, v8] t (0, 0)) := by
  have s0 := heap_setCell_same _ b 0 _ _ v0 h
  have s1 := heap_setCell_same _ b 1 _ _ v1 s0
  have s2 := heap_setCell_same _ b 2 _ _ v2 s1
  have s3 := heap_setCell_same _ b 3 _ _ v3 s2
  have s4 := heap_setCell_same _ b 4 _ _ v4 s3
  have s5 := heap_setCell_same _ b 5 _ _ v5 s4
  have s6 := heap_setCell_same _ b 6 _ _ v6 s5
  have s7 := heap_setCell_same _ b 7 _ _ v7 s6
  have s8 := heap_setCell_same _ b 8 _ _ v8 s7
  unfold set9
  simpa using s8
/-- The lent program's box is filled. -/
theorem ld_fill {W : World} {g : Pg} {p : Pv} {rb cb : Nat} {va vb vc : Value} {w : World} (h : Lb W g p rb w) (hc : w.heap[cb]? = some (.cells #[.slice none 0 0, .slice none 0 0, .int .i64 0, .int .i64 0, .int .i64 0, .int .i64 0, .int .i64 0, .int .i64 0, .slice none 0 0] 27 (0, 0))) (ra : w.ownsRow W.heap.size 42 1 va 0 []) (rB : w.ownsRow W.heap.size 3 1 vb 0 []) (rC : w.ownsRow W.heap.size 83 2 vc 0 []) (lc : W.heap.size ≤ cb) (np : cb ≠ W.heap.size) (nr : cb ≠ rb) :
    Ld W g p rb cb va vb vc 0 0 0 [] [] [] (set9 w cb va vb (.int .i64 (p.en 0)) (.int .i64 (p.en 1)) (.int .i64 (p.en 2)) (.int .i64 (p.en 3)) (.int .i64 (p.en 4)) (.int .i64 (p.en 5)) vc) := by
  have G := set9_grown w cb va vb (.int .i64 (p.en 0)) (.int .i64 (p.en 1)) (.int .i64 (p.en 2)) (.int .i64 (p.en 3)) (.int .i64 (p.en 4)) (.int .i64 (p.en 5)) vc
  exact ⟨(G.block _ (block_lt h.prg) (by simpa using fun e => np e.symm)).trans h.prg, (G.block _ (block_lt h.res) (by simpa using fun e => nr e.symm)).trans h.res, set9_at hc _ _ _ _ _ _ _ _ _, ra.kept G (.inr (own_off2 ra (by decide) hc)), rB.kept G (.inr (own_off2 rB (by decide) hc)), rC.kept G (.inr (own_off2 rC (by decide) hc)), h.bel.trans (below_of_grown G lc h.bel.size), lc, np, nr⟩
end Go.Proofs.YtmoklddfaocihaaDoor
