import Derived.Test.YtggpaljilpbmhaaGreatDoorZ15
namespace Go.Proofs.YtggpaljilpbmhaaGreatDoor
open Go.RowKit

/-- The world while the reference lays its rows. -/
structure L1 (W : World) (rb q : Nat) (g : Pg) (p : Pv) (ja jb : Nat) (va vb : Value) (w : World) : Prop where
 prg : w.heap[W.heap.size]? = some (.cells (g.cs p).toArray 27 (0, 0))
 res : w.heap[rb]? = some (.cells #[.slice none 0 0, .int .i64 0] 54 (0, 0))
 wlk : w.heap[q]? = some (.cells #[va, vb] 211 (0, 0))
 ra : w.ownsRow W.heap.size 4 1 va ja (List.replicate ja (.bool false))
 rb : w.ownsRow W.heap.size 23 1 vb jb (List.replicate jb (.slice none 0 0))
 bel : Below W.heap.size W w
 lq : W.heap.size ≤ q
theorem own_typ {w : World} {base n : Nat} {t : TypeId} {v : Value} {xs : List Value} (h : w.ownsRow base t 1 v n xs) {b : Nat} (e : v.ownBlock = some b) : base ≤ b ∧ ∃ cs : Array Value, w.heap[b]? = some (.cells cs t (0, 0)) := by
 refine ⟨(h.lt b e).1, ?_⟩
 rcases h.2 with ⟨e3, _⟩ | ⟨g3, cap, cur, e3, _, hc, _⟩
 ·rw [e3] at e; cases e
 ·rw [e3] at e
  cases e
  exact ⟨_, hc⟩
theorem own_off {w : World} {base n : Nat} {t t' : TypeId} {v : Value} {xs : List Value} (h : w.ownsRow base t 1 v n xs) (hne : t ≠ t') {b : Nat} {cs : Array Value} {z : Nat × Nat} (e : w.heap[b]? = some (.cells cs t' z)) : v.ownBlock ≠ some b := fun e2 => by
 obtain ⟨_, cs', h'⟩ := own_typ h e2
 rw [e] at h'
 cases h'
 exact hne rfl
section
variable {W : World} {rb q : Nat} {g : Pg} {p : Pv} {ja jb : Nat} {va vb : Value} {w w' : World} {o : Obj}
theorem L1.stepA (h : L1 W rb q g p ja jb va vb w) {va' : Value} (ho : w'.ownsRow W.heap.size 4 1 va' (ja + 1) (List.replicate ja (.bool false) ++ [.bool false])) (hg : (w.alloc o).grownBy w' va.ownBlock) : L1 W rb q g p (ja + 1) jb va' vb (w'.setCell ⟨q, 0, none⟩ va') ∧ w'.heap[q]? = some (.cells #[va, vb] 211 (0, 0)) := by
 have al := below_alloc1 w o
 have K : ∀ {b : Nat} {cs : Array Value} {t' : TypeId} {z : Nat × Nat}, (4 : TypeId) ≠ t' → w.heap[b]? = some (.cells cs t' z) → w'.heap[b]? = some (.cells cs t' z) := fun hne e =>
  (hg.block _ (Nat.lt_of_lt_of_le (block_lt e) al.size) (fun x => own_off h.ra hne e x.symm)).trans ((al.block _ (block_lt e)).trans e)
 have kw := K (by decide) h.wlk
 have kp := K (by decide) h.prg
 have kr := K (by decide) h.res
 have G := grown_set w' q 0 va'
 have s1 := heap_setCell_same w' q 0 _ _ va' kw
 have n1 : W.heap.size ≠ q := fun e => by rw [e] at kp; rw [kw] at kp; simp at kp
 have n2 : rb ≠ q := fun e => by rw [e] at kr; rw [kw] at kr; simp at kr
 refine ⟨⟨(G.block _ (block_lt kp) (by simpa using n1)).trans kp, (G.block _ (block_lt kr) (by simpa using n2)).trans kr, by simpa using s1, ?_, ?_, ?_, h.lq⟩, kw⟩
 ·rw [List.replicate_succ']
  exact ho.kept G (.inr (own_off ho (by decide) kw))
 ·have r1 := row_quietT h.rb (World.grownBy_alloc w o none)
  have r2 : w'.ownsRow W.heap.size 23 1 vb jb (List.replicate jb (.slice none 0 0)) := by
   refine r1.kept hg ?_
   cases e : vb.ownBlock with
   | none => exact .inl rfl
   | some b =>
    obtain ⟨_, cs, hc⟩ := own_typ h.rb e
    exact .inr (fun x => own_off h.ra (by decide) hc x.symm)
  exact r2.kept G (.inr (own_off r2 (by decide) kw))
 ·exact ((h.bel.alloc h.bel.size o).grown hg (by have := h.bel.size; simp; omega) (fun b e => (h.ra.lt b e).1)).setCell (p := ⟨q, 0, none⟩) h.lq va'
theorem L1.stepB (h : L1 W rb q g p ja jb va vb w) {vb' : Value} (ho : w'.ownsRow W.heap.size 23 1 vb' (jb + 1) (List.replicate jb (.slice none 0 0) ++ [.slice none 0 0])) (hg : (w.alloc o).grownBy w' vb.ownBlock) : L1 W rb q g p ja (jb + 1) va vb' (w'.setCell ⟨q, 1, none⟩ vb') ∧ w'.heap[q]? = some (.cells #[va, vb] 211 (0, 0)) := by
 have al := below_alloc1 w o
 have K : ∀ {b : Nat} {cs : Array Value} {t' : TypeId} {z : Nat × Nat}, (23 : TypeId) ≠ t' → w.heap[b]? = some (.cells cs t' z) → w'.heap[b]? = some (.cells cs t' z) := fun hne e =>
  (hg.block _ (Nat.lt_of_lt_of_le (block_lt e) al.size) (fun x => own_off h.rb hne e x.symm)).trans ((al.block _ (block_lt e)).trans e)
 have kw := K (by decide) h.wlk
 have kp := K (by decide) h.prg
 have kr := K (by decide) h.res
 have G := grown_set w' q 1 vb'
 have s1 := heap_setCell_same w' q 1 _ _ vb' kw
 have n1 : W.heap.size ≠ q := fun e => by rw [e] at kp; rw [kw] at kp; simp at kp
 have n2 : rb ≠ q := fun e => by rw [e] at kr; rw [kw] at kr; simp at kr
 refine ⟨⟨(G.block _ (block_lt kp) (by simpa using n1)).trans kp, (G.block _ (block_lt kr) (by simpa using n2)).trans kr, by simpa using s1, ?_, ?_, ?_, h.lq⟩, kw⟩
 ·have r1 := row_quietT h.ra (World.grownBy_alloc w o none)
  have r2 : w'.ownsRow W.heap.size 4 1 va ja (List.replicate ja (.bool false)) := by
   refine r1.kept hg ?_
   cases e : va.ownBlock with
   | none => exact .inl rfl
   | some b =>
    obtain ⟨_, cs, hc⟩ := own_typ h.ra e
    exact .inr (fun x => own_off h.rb (by decide) hc x.symm)
  exact r2.kept G (.inr (own_off r2 (by decide) kw))
 ·rw [List.replicate_succ']
  exact ho.kept G (.inr (own_off ho (by decide) kw))
 ·exact ((h.bel.alloc h.bel.size o).grown hg (by have := h.bel.size; simp; omega) (fun b e => (h.rb.lt b e).1)).setCell (p := ⟨q, 1, none⟩) h.lq vb'
/-- The rows laid: the Walk as it lies, where there are instructions. -/
theorem L1.whole (h : L1 W rb q g p p.n p.n va vb w) (hok : g.Ok p W.heap.size w) (hn : 0 < p.n) : ∃ ba bs ca cc, RW W.heap.size w q ba bs ca cc g p (fun _ => none) := by
 rcases h.ra.2 with ⟨_, e0⟩ | ⟨ba, ca, cur, e1, hb1, hc1, hn1, _, hs1, ht1⟩
 ·omega
 ·rcases h.rb.2 with ⟨_, e0⟩ | ⟨bs, cc, cur2, e2, hb2, hc2, hn2, _, hs2, ht2⟩
  ·omega
  ·refine ⟨ba, bs, ca, cc, ?_, ⟨_, hc1, fun j hj => ?_⟩, ⟨_, hc2, fun j hj => ⟨.slice none 0 0, ?_, KI.nil w⟩⟩, hok, h.lq, hb1, hb2, hn1, hn2⟩
   ·rw [h.wlk, e1, e2]
   ·have : (List.replicate p.n (Value.bool false))[j]? = some (.bool false) := by simp [hj]
    rw [← ht1, List.getElem?_take, if_pos (by omega)] at this
    simpa using this
   ·have : (List.replicate p.n (Value.slice none 0 0))[j]? = some (.slice none 0 0) := by simp [hj]
    rw [← ht2, List.getElem?_take, if_pos (by omega)] at this
    simpa using this
end
theorem Tryz.infoB : (Tryz.prog.info? 4).map (fun i => (i.zero, i.size, i.bytes)) = some (some (.bool false), 1, 1) := by kernel_rfl
theorem Tryz.infoSl : (Tryz.prog.info? 23).map (fun i => (i.zero, i.size, i.bytes)) = some (some (.slice none 0 0), 1, 24) := by kernel_rfl
/-- The world of the reference's walk behind its first loop. -/
structure L2 (W : World) (rb q ba bs ca cc : Nat) (g : Pg) (p : Pv) (k : Kn) (w : World) : Prop where
 prg : w.heap[W.heap.size]? = some (.cells (g.cs p).toArray 27 (0, 0))
 res : w.heap[rb]? = some (.cells #[.slice none 0 0, .int .i64 0] 54 (0, 0))
 rw : 0 < p.n → RW W.heap.size w q ba bs ca cc g p k
 bel : Below W.heap.size W w
 lr : W.heap.size ≤ rb
theorem L2.next {W : World} {rb q ba bs ca cc : Nat} {g : Pg} {p : Pv} {k : Kn} {w w' : World} (h : L2 W rb q ba bs ca cc g p k w) (hb : Below w.heap.size w w') : L2 W rb q ba bs ca cc g p k w' :=
 ⟨(hb.block _ (block_lt h.prg)).trans h.prg, (hb.block _ (block_lt h.res)).trans h.res, fun e => (h.rw e).kept hb, h.bel.trans (hb.mono h.bel.size), h.lr⟩
theorem L2.step {W : World} {rb q ba bs ca cc : Nat} {g : Pg} {p : Pv} {k k' : Kn} {w w' : World} (h : L2 W rb q ba bs ca cc g p k w) (hn : 0 < p.n) (hr : RW W.heap.size w' q ba bs ca cc g p k') (hg : G2w w w' ba bs) : L2 W rb q ba bs ca cc g p k' w' := by
 have hrw := h.rw hn
 obtain ⟨c1, a1, a2⟩ := hrw.rowA
 obtain ⟨c2, b1, b2⟩ := hrw.rowB
 have n1 : W.heap.size ≠ ba := fun e => by have := h.prg; rw [e, a1] at this; simp at this
 have n2 : W.heap.size ≠ bs := fun e => by have := h.prg; rw [e, b1] at this; simp at this
 have n3 : rb ≠ ba := fun e => by have := h.res; rw [e, a1] at this; simp at this
 have n4 : rb ≠ bs := fun e => by have := h.res; rw [e, b1] at this; simp at this
 exact ⟨(hg.block _ (block_lt h.prg) n1 n2).trans h.prg, (hg.block _ (block_lt h.res) n3 n4).trans h.res, fun _ => hr, h.bel.trans (hg.below hrw.la hrw.lb hrw.le), h.lr⟩
theorem L2.bel2 {W : World} {rb q ba bs ca cc : Nat} {g : Pg} {p : Pv} {k : Kn} {w w' : World} (h : L2 W rb q ba bs ca cc g p k w) (hn : 0 < p.n) (hg : G2w w w' ba bs) : Below W.heap.size W w' ∧ w'.heap[rb]? = some (.cells #[.slice none 0 0, .int .i64 0] 54 (0, 0)) := by
 have hrw := h.rw hn
 obtain ⟨c1, a1, a2⟩ := hrw.rowA
 obtain ⟨c2, b1, b2⟩ := hrw.rowB
 have n3 : rb ≠ ba := fun e => by have := h.res; rw [e, a1] at this; simp at this
 have n4 : rb ≠ bs := fun e => by have := h.res; rw [e, b1] at this; simp at this
 exact ⟨h.bel.trans (hg.below hrw.la hrw.lb hrw.le), (hg.block _ (block_lt h.res) n3 n4).trans h.res⟩
end Go.Proofs.YtggpaljilpbmhaaGreatDoor
namespace Go.Proofs.YtggpaljilpbmhaaGreatDoor
open Go.RowKit

theorem own_val {w : World} {base n : Nat} {t : TypeId} {v : Value} {xs : List Value} (h : w.ownsRow base t 1 v n xs) : ∃ ao cap, v = .slice ao n cap := by
 rcases h.2 with ⟨e3, e0⟩ | ⟨g3, cap, cur, e3, _⟩
 ·exact ⟨none, 0, by rw [e3, e0]⟩
 ·exact ⟨_, cap, e3⟩
theorem stat_none {p : Pv} (h : statF p = none) : sizeF p = none ∧ slotF p = none ∧ entF p = none ∧ insF p = none := by
 unfold statF at h
 cases e0 : sizeF p with
 | some y => rw [e0] at h; cases h
 | none =>
  rw [e0] at h
  cases e1 : slotF p with
  | some y => rw [e1] at h; cases h
  | none =>
   rw [e1] at h
   cases e2 : entF p with
   | some y => rw [e2] at h; cases h
   | none =>
    rw [e2] at h
    exact ⟨rfl, rfl, rfl, h⟩
theorem size_none {p : Pv} (h : sizeF p = none) : p.nc ≤ 256 ∧ p.ns ≤ 128 ∧ p.n ≤ 1024 := by
 unfold sizeF at h
 split at h
 ·cases h
 ·split at h
  ·cases h
  ·split at h
   ·cases h
   ·omega
theorem slot_none {p : Pv} (h : slotF p = none) : ∀ j, j < p.ns → p.S j = 0 ∨ p.S j = 1 := by
 have key : ∀ n, firstBad (slotB p) n = none → ∀ j, j < n → slotB p j = none := by
  intro n
  induction n with
  | zero => intro _ j hj; omega
  | succ n ih =>
   intro h j hj
   unfold firstBad at h
   have h1 : firstBad (slotB p) n = none := by
    cases e : firstBad (slotB p) n with
    | none => rfl
    | some r => rw [e] at h; cases h
   rw [h1] at h
   by_cases e : j = n
   ·subst e; simpa using h
   ·exact ih h1 j (by omega)
 intro j hj
 have := key p.ns h j hj
 unfold slotB at this
 split at this
 ·cases this
 ·rename_i h1
  by_cases e : p.S j = 0
  ·exact .inl e
  ·right
   by_cases e1 : p.S j = 1
   ·exact e1
   ·exact absurd ⟨e, e1⟩ h1
/-- What becomes of the reference's walk. -/
def WkR (W : World) (g : Pg) (p : Pv) (r : Except (Int × Int) Kn) (e : Ending) (w' : World) : Prop := match r with
 | .ok k => ∃ q, e = .returned (.tuple #[.pointer (some ⟨q, 0, none⟩), .agg #[.slice none 0 0, .int .i64 0]]) ∧ Hid ((0 < p.n → ∃ ba bs ca cc, RW W.heap.size w' q ba bs ca cc g p k) ∧ Below W.heap.size W w')
 | .error (a, y) => ∃ q ao cap, e = .returned (.tuple #[.pointer (some ⟨q, 0, none⟩), .agg #[.slice ao 1 cap, .int .i64 y]]) ∧ y ≠ 0 ∧ Hid (∃ b off, FV w'.heap.size w' ao [⟨⟨#[99, 111, 100, 101]⟩, a⟩] b off ∧ Below W.heap.size W w')
theorem l1_new {W W3 : World} {g : Pg} {p : Pv} (hW : ((W.alloc (.cells (g.cs p).toArray 27)).alloc (.cells #[.slice none 0 0, .int .i64 0] 54)).alloc (.cells #[.slice none 0 0, .slice none 0 0] 211) = W3) : L1 W (W.heap.size + 1) (W.heap.size + 1 + 1) g p 0 0 (.slice none 0 0) (.slice none 0 0) W3 := by
 obtain ⟨W1, h1⟩ : ∃ W1, W.alloc (.cells (g.cs p).toArray 27) = W1 := ⟨_, rfl⟩
 rw [h1] at hW
 obtain ⟨W2, h2⟩ : ∃ W2, W1.alloc (.cells #[.slice none 0 0, .int .i64 0] 54) = W2 := ⟨_, rfl⟩
 rw [h2] at hW
 have s1 : W1.heap.size = W.heap.size + 1 := by rw [← h1]; simp
 have s2 : W2.heap.size = W.heap.size + 1 + 1 := by rw [← h2]; simp; omega
 have B1 : Below W.heap.size W W1 := by rw [← h1]; exact below_alloc1 _ _
 have B2 : Below W1.heap.size W1 W2 := by rw [← h2]; exact below_alloc1 _ _
 have B3 : Below W2.heap.size W2 W3 := by rw [← hW]; exact below_alloc1 _ _
 have a1 : W1.heap[W.heap.size]? = some (.cells (g.cs p).toArray 27 (0, 0)) := by rw [← h1]; exact alloc_atK _ _
 have a2 : W2.heap[W.heap.size + 1]? = some (.cells #[.slice none 0 0, .int .i64 0] 54 (0, 0)) := by rw [← s1, ← h2]; exact alloc_atK _ _
 have a3 : W3.heap[W.heap.size + 1 + 1]? = some (.cells #[.slice none 0 0, .slice none 0 0] 211 (0, 0)) := by rw [← s2, ← hW]; exact alloc_atK _ _
 refine ⟨(B3.block _ (by omega)).trans ((B2.block _ (by omega)).trans a1), (B3.block _ (by omega)).trans a2, a3, World.ownsRow_nil _ _ _ _, World.ownsRow_nil _ _ _ _, ?_, by omega⟩
 exact B1.trans ((B2.mono B1.size).trans (B3.mono (by omega)))
theorem goF_next {p : Pv} {j : Nat} {k : Kn} (h : goF p j = .ok k) : goF p (j + 1) = if (k j).isSome = true then (match visitF p k j with
   | .ok k' => .ok k'
   | .error y => .error ((j : Int), y)) else .ok k := by
 simp only [goF, h]
 rfl
theorem RW.far {lim : Nat} {w w' : World} {q ba bs ca cc rb : Nat} {g : Pg} {p : Pv} {k : Kn} (h : RW lim w q ba bs ca cc g p k) {cs : Array Value} {z : Nat × Nat} (hr : w.heap[rb]? = some (.cells cs 54 z)) (hl : lim ≤ rb) (hg : w.grownBy w' (some rb)) : RW lim w' q ba bs ca cc g p k := by
 have K : ∀ {b : Nat} {cs' : Array Value} {t' : TypeId} {z' : Nat × Nat}, (54 : TypeId) ≠ t' → w.heap[b]? = some (.cells cs' t' z') → w'.heap[b]? = some (.cells cs' t' z') := fun hne e =>
  (hg.block _ (block_lt e) (fun x => by cases x; rw [hr] at e; cases e; exact hne rfl)).trans e
 obtain ⟨c1, a1, a2⟩ := h.rowA
 obtain ⟨c2, b1, b2⟩ := h.rowB
 refine ⟨K (by decide) h.blk, ⟨c1, K (by decide) a1, a2⟩, ⟨c2, K (by decide) b1, fun j hj => ?_⟩, h.ok.kept (below_of_grown hg hl h.le) (Nat.le_refl _), h.lq, h.la, h.lb, h.hca, h.hcc⟩
 obtain ⟨v, e1, e2⟩ := b2 j hj
 exact ⟨v, e1, e2.kept (fun b cs e => (K (by decide) e).trans e.symm)⟩
set_option maxRecDepth 10000 in
set_option maxHeartbeats 12800000 in
theorem walkR {W : World} {g : Pg} {p : Pv} (h : g.Ok p W.heap.size W) (hst : statF p = none) : Calls Tryz.prog 127 #[.agg (g.cs p).toArray] W (WkR W g p (goF p p.n)) := by
 obtain ⟨iB, hiB, hB0, hB1, hB2⟩ := info_parts Tryz.infoB
 obtain ⟨iS, hiS, hS0, hS1, hS2⟩ := info_parts Tryz.infoSl
 obtain ⟨e0, e1, hen, hins⟩ := stat_none hst
 have hn := (size_none e0).2.2
 have HSL := hide (slot_none e1)
 have HIN := hide hins
 obtain ⟨W3, hW3⟩ : ∃ W3, ((W.alloc (.cells (g.cs p).toArray 27)).alloc (.cells #[.slice none 0 0, .int .i64 0] 54)).alloc (.cells #[.slice none 0 0, .slice none 0 0] 211) = W3 := ⟨_, rfl⟩
 have HL0 := hide (l1_new hW3)
 have HW3 := hide hW3
 have HOK := hide h
 have HCS : Hid (g.cs p = [.slice g.ca p.nc g.cc, .slice g.sa p.ns g.sc, .int .i64 (p.en 0), .int .i64 (p.en 1), .int .i64 (p.en 2), .int .i64 (p.en 3), .int .i64 (p.en 4), .int .i64 (p.en 5), .slice g.ia p.n g.ic]) := rfl
 rw [HCS.out] at HW3 ⊢
 obtain ⟨r, hr⟩ : ∃ r, goF p p.n = r := ⟨_, rfl⟩
 rw [hr]
 have HR := hide hr
 have HEN := hide hen
 clear h hst hW3 hr e0 e1 hins
 go_enter Tryz.func127, Tryz.ntmps127
 go_upto_region 2 with fail
 rw [HW3.out]
 clear HW3
 generalize hq : W.heap.size + 1 + 1 = q at *
 generalize hrb : W.heap.size + 1 = rb at *
 have HQL : Hid (W.heap.size ≤ rb) := by show _ ≤ _; omega
 clear hrb hq
 go_upto_region 3 with fail
 clear hen
 go_loopw [5] (fun i wr => ∃ j : Nat, j ≤ p.n ∧ i = .int .i64 (j : Nat) ∧ Hid (∃ va vb, L1 W rb q g p j j va vb wr)) (fun i _ => p.n - (intOf i).toNat)
 case atStart => exact ⟨0, by omega, rfl, _, _, HL0.out⟩
 case round =>
  obtain ⟨j, hj, rfl, HJ⟩ := hrel
  clear HL0
  obtain ⟨va, vb, hL⟩ := HJ.out
  have y8 := block_cell hL.prg 8
  have yl := block_lt hL.prg
  simp [Pg.cs] at y8
  by_cases hlt : j < p.n
  ·have z0 := block_cell hL.wlk 0
   have zl := block_lt hL.wlk
   simp at z0
   have HL := hide hL
   have HOW : Hid (∀ o, (wr.alloc o).ownsRow W.heap.size 4 1 va j (List.replicate j (.bool false))) := fun o => row_quietT HL.out.ra (World.grownBy_alloc _ _ none)
   have HSZ : Hid (∀ o, W.heap.size ≤ (wr.alloc o).heap.size) := fun o => by
    have := HL.out.bel.size
    simp
    omega
   clear hL HJ
   go_upto_region 6 with (at_builtin; refine wpList_append_own _ rfl (.tmp 22) (.tmp 23) 208 rfl W.heap.size 4 iB (.bool false) 1 1 Tryz.underlying208 hiB hB0 hB1 hB2 rfl (by decide) va j _ rfl (HOW.out _) ⟨wr.heap.size, 0, none⟩ 1 1 [.bool false] rfl rfl (cell_one_new _ _ _) (by simp [Value.oneCell']) (by unfold maxLen; omega) (by omega) (HSZ.out _) ?_; intro va' wA hoA hgA _; obtain ⟨aoA, cpA, hvA⟩ := own_val hoA; have hA := HL.out.stepA hoA hgA; have k0 := block_cell hA.2 0; have kf := block_free hA.2 0; have kl := block_lt hA.2; simp at k0; have HA := hide hA.1; subst hvA; clear hA hoA hgA HL HOW HSZ z0 zl)
   obtain ⟨wB, hwB⟩ : ∃ wB, wA.setCell ⟨q, 0, none⟩ (.slice aoA (j + 1) cpA) = wB := ⟨_, rfl⟩
   rw [hwB]
   rw [hwB] at HA
   clear hwB k0 kf kl
   have z1 := block_cell HA.out.wlk 1
   have zl := block_lt HA.out.wlk
   simp at z1
   have HOW : Hid (∀ o, (wB.alloc o).ownsRow W.heap.size 23 1 vb j (List.replicate j (.slice none 0 0))) := fun o => row_quietT HA.out.rb (World.grownBy_alloc _ _ none)
   have HSZ : Hid (∀ o, W.heap.size ≤ (wB.alloc o).heap.size) := fun o => by
    have := HA.out.bel.size
    simp
    omega
   go_wp2_with (at_builtin; refine wpList_append_own _ rfl (.tmp 31) (.tmp 32) 209 rfl W.heap.size 23 iS (.slice none 0 0) 1 24 Tryz.underlying209 hiS hS0 hS1 hS2 rfl (by decide) vb j _ rfl (HOW.out _) ⟨wB.heap.size, 0, none⟩ 1 1 [.slice none 0 0] rfl rfl (cell_one_new _ _ _) (by simp [Value.oneCell']) (by unfold maxLen; omega) (by omega) (HSZ.out _) ?_; intro vb' wC hoC hgC _; obtain ⟨aoC, cpC, hvC⟩ := own_val hoC; have hC := HA.out.stepB hoC hgC; have k0 := block_cell hC.2 1; have kf := block_free hC.2 1; have kl := block_lt hC.2; simp at k0; have HC := hide hC.1; subst hvC; clear hC hoC hgC HA HOW HSZ z1 zl)
   go_roundw
   case rel => exact ⟨j + 1, by omega, by go_num, _, _, HC.out⟩
   case measure => simp [intOf]; omega
  ·obtain rfl : j = p.n := by omega
   have HL2 : Hid (∃ ba bs ca cc, L2 W rb q ba bs ca cc g p (entK p 0) wr) := by
    by_cases h0 : 0 < p.n
    ·obtain ⟨ba, bs, ca, cc, hrw⟩ := hL.whole (HOK.out.kept hL.bel (Nat.le_refl _)) h0
     exact ⟨ba, bs, ca, cc, hL.prg, hL.res, fun _ => hrw, hL.bel, HQL.out⟩
    ·exact ⟨0, 0, 0, 0, hL.prg, hL.res, fun e => absurd e h0, hL.bel, HQL.out⟩
   obtain ⟨ba, bs, ca, cc, hl2⟩ := HL2.out
   have HL0 := hide hl2
   clear hl2 HL2 hL HJ
   have hen := HEN.out
   have HENP := hide hen
   clear hen
   go_upto_region 8 with fail
   clear y8 yl
   go_loopw [6] (fun i wr => ∃ j : Nat, j ≤ 6 ∧ i = .int .i64 (j : Nat) ∧ Hid (L2 W rb q ba bs ca cc g p (entK p j) wr)) (fun i _ => 6 - (intOf i).toNat)
   case atStart => exact ⟨0, by omega, rfl, HL0.out⟩
   case round =>
    obtain ⟨j, hj, rfl, HS⟩ := hrel
    clear HL0
    have y2 := block_cell HS.out.prg 2
    have y3 := block_cell HS.out.prg 3
    have y4 := block_cell HS.out.prg 4
    have y5 := block_cell HS.out.prg 5
    have y6 := block_cell HS.out.prg 6
    have y7 := block_cell HS.out.prg 7
    have yl := block_lt HS.out.prg
    simp [Pg.cs] at y2 y3 y4 y5 y6 y7
    by_cases hlt : j < 6
    ·have hen := HEN.out
     have h6 : j = 0 ∨ j = 1 ∨ j = 2 ∨ j = 3 ∨ j = 4 ∨ j = 5 := by omega
     rcases h6 with rfl | rfl | rfl | rfl | rfl | rfl
     ·rcases ent_of hen (e := 0) (by omega) with he | he
      ·have HN : Hid (L2 W rb q ba bs ca cc g p (entK p 1) wr) := by
        have e : entK p 1 = entK p 0 := if_neg (by rw [he]; decide)
        show L2 W rb q ba bs ca cc g p (entK p 1) wr
        rw [e]
        exact HS.out
       rw [he] at y2
       clear he hen
       go_wp2
       go_roundw
       case rel => exact ⟨1, by omega, by go_num, HN.out⟩
       case measure => simp [intOf]
      ·obtain ⟨t, ht, htn⟩ : ∃ t : Nat, p.en 0 = (t : Int) ∧ t < p.n := ⟨_, (isPl_nat he).1, (isPl_nat he).2⟩
       have HRW := hide (HS.out.rw (by omega))
       obtain ⟨q0, q1, ql, a0, af, al, bl, _⟩ := HRW.out.at_ t htn
       have hca := HRW.out.hca
       have HN : Hid (L2 W rb q ba bs ca cc g p (entK p 1) (wr.setCell ⟨ba, t, none⟩ (.bool true)).drew) := by
        have e : entK p 1 = updK (entK p 0) (p.en 0).toNat [] := if_pos (by rw [ht]; exact Int.natCast_nonneg t)
        have h2 := HRW.out.setA t htn
        rw [entK_nil] at h2
        rw [show (p.en 0).toNat = t by rw [ht]; simp] at e
        show L2 W rb q ba bs ca cc g p (entK p 1) _
        rw [e]
        exact (HS.out.step (by omega) h2.1 h2.2).next (Below.refl _ _).drew
       rw [ht] at y2
       clear he HRW ht hen
       go_upto_region 11 with fail
       go_region
       go_wp2
       go_roundw
       case rel => exact ⟨1, by omega, by go_num, HN.out⟩
       case measure => simp [intOf]
     ·rcases ent_of hen (e := 1) (by omega) with he | he
      ·have HN : Hid (L2 W rb q ba bs ca cc g p (entK p 2) wr) := by
        have e : entK p 2 = entK p 1 := if_neg (by rw [he]; decide)
        show L2 W rb q ba bs ca cc g p (entK p 2) wr
        rw [e]
        exact HS.out
       rw [he] at y3
       clear he hen
       go_wp2
       go_roundw
       case rel => exact ⟨2, by omega, by go_num, HN.out⟩
       case measure => simp [intOf]
      ·obtain ⟨t, ht, htn⟩ : ∃ t : Nat, p.en 1 = (t : Int) ∧ t < p.n := ⟨_, (isPl_nat he).1, (isPl_nat he).2⟩
       have HRW := hide (HS.out.rw (by omega))
       obtain ⟨q0, q1, ql, a0, af, al, bl, _⟩ := HRW.out.at_ t htn
       have hca := HRW.out.hca
       have HN : Hid (L2 W rb q ba bs ca cc g p (entK p 2) (wr.setCell ⟨ba, t, none⟩ (.bool true)).drew) := by
        have e : entK p 2 = updK (entK p 1) (p.en 1).toNat [] := if_pos (by rw [ht]; exact Int.natCast_nonneg t)
        have h2 := HRW.out.setA t htn
        rw [entK_nil] at h2
        rw [show (p.en 1).toNat = t by rw [ht]; simp] at e
        show L2 W rb q ba bs ca cc g p (entK p 2) _
        rw [e]
        exact (HS.out.step (by omega) h2.1 h2.2).next (Below.refl _ _).drew
       rw [ht] at y3
       clear he HRW ht hen
       go_upto_region 11 with fail
       go_region
       go_wp2
       go_roundw
       case rel => exact ⟨2, by omega, by go_num, HN.out⟩
       case measure => simp [intOf]
     ·rcases ent_of hen (e := 2) (by omega) with he | he
      ·have HN : Hid (L2 W rb q ba bs ca cc g p (entK p 3) wr) := by
        have e : entK p 3 = entK p 2 := if_neg (by rw [he]; decide)
        show L2 W rb q ba bs ca cc g p (entK p 3) wr
        rw [e]
        exact HS.out
       rw [he] at y4
       clear he hen
       go_wp2
       go_roundw
       case rel => exact ⟨3, by omega, by go_num, HN.out⟩
       case measure => simp [intOf]
      ·obtain ⟨t, ht, htn⟩ : ∃ t : Nat, p.en 2 = (t : Int) ∧ t < p.n := ⟨_, (isPl_nat he).1, (isPl_nat he).2⟩
       have HRW := hide (HS.out.rw (by omega))
       obtain ⟨q0, q1, ql, a0, af, al, bl, _⟩ := HRW.out.at_ t htn
       have hca := HRW.out.hca
       have HN : Hid (L2 W rb q ba bs ca cc g p (entK p 3) (wr.setCell ⟨ba, t, none⟩ (.bool true)).drew) := by
        have e : entK p 3 = updK (entK p 2) (p.en 2).toNat [] := if_pos (by rw [ht]; exact Int.natCast_nonneg t)
        have h2 := HRW.out.setA t htn
        rw [entK_nil] at h2
        rw [show (p.en 2).toNat = t by rw [ht]; simp] at e
        show L2 W rb q ba bs ca cc g p (entK p 3) _
        rw [e]
        exact (HS.out.step (by omega) h2.1 h2.2).next (Below.refl _ _).drew
       rw [ht] at y4
       clear he HRW ht hen
       go_upto_region 11 with fail
       go_region
       go_wp2
       go_roundw
       case rel => exact ⟨3, by omega, by go_num, HN.out⟩
       case measure => simp [intOf]
     ·rcases ent_of hen (e := 3) (by omega) with he | he
      ·have HN : Hid (L2 W rb q ba bs ca cc g p (entK p 4) wr) := by
        have e : entK p 4 = entK p 3 := if_neg (by rw [he]; decide)
        show L2 W rb q ba bs ca cc g p (entK p 4) wr
        rw [e]
        exact HS.out
       rw [he] at y5
       clear he hen
       go_wp2
       go_roundw
       case rel => exact ⟨4, by omega, by go_num, HN.out⟩
       case measure => simp [intOf]
      ·obtain ⟨t, ht, htn⟩ : ∃ t : Nat, p.en 3 = (t : Int) ∧ t < p.n := ⟨_, (isPl_nat he).1, (isPl_nat he).2⟩
       have HRW := hide (HS.out.rw (by omega))
       obtain ⟨q0, q1, ql, a0, af, al, bl, _⟩ := HRW.out.at_ t htn
       have hca := HRW.out.hca
       have HN : Hid (L2 W rb q ba bs ca cc g p (entK p 4) (wr.setCell ⟨ba, t, none⟩ (.bool true)).drew) := by
        have e : entK p 4 = updK (entK p 3) (p.en 3).toNat [] := if_pos (by rw [ht]; exact Int.natCast_nonneg t)
        have h2 := HRW.out.setA t htn
        rw [entK_nil] at h2
        rw [show (p.en 3).toNat = t by rw [ht]; simp] at e
        show L2 W rb q ba bs ca cc g p (entK p 4) _
        rw [e]
        exact (HS.out.step (by omega) h2.1 h2.2).next (Below.refl _ _).drew
       rw [ht] at y5
       clear he HRW ht hen
       go_upto_region 11 with fail
       go_region
       go_wp2
       go_roundw
       case rel => exact ⟨4, by omega, by go_num, HN.out⟩
       case measure => simp [intOf]
     ·rcases ent_of hen (e := 4) (by omega) with he | he
      ·have HN : Hid (L2 W rb q ba bs ca cc g p (entK p 5) wr) := by
        have e : entK p 5 = entK p 4 := if_neg (by rw [he]; decide)
        show L2 W rb q ba bs ca cc g p (entK p 5) wr
        rw [e]
        exact HS.out
       rw [he] at y6
       clear he hen
       go_wp2
       go_roundw
       case rel => exact ⟨5, by omega, by go_num, HN.out⟩
       case measure => simp [intOf]
      ·obtain ⟨t, ht, htn⟩ : ∃ t : Nat, p.en 4 = (t : Int) ∧ t < p.n := ⟨_, (isPl_nat he).1, (isPl_nat he).2⟩
       have HRW := hide (HS.out.rw (by omega))
       obtain ⟨q0, q1, ql, a0, af, al, bl, _⟩ := HRW.out.at_ t htn
       have hca := HRW.out.hca
       have HN : Hid (L2 W rb q ba bs ca cc g p (entK p 5) (wr.setCell ⟨ba, t, none⟩ (.bool true)).drew) := by
        have e : entK p 5 = updK (entK p 4) (p.en 4).toNat [] := if_pos (by rw [ht]; exact Int.natCast_nonneg t)
        have h2 := HRW.out.setA t htn
        rw [entK_nil] at h2
        rw [show (p.en 4).toNat = t by rw [ht]; simp] at e
        show L2 W rb q ba bs ca cc g p (entK p 5) _
        rw [e]
        exact (HS.out.step (by omega) h2.1 h2.2).next (Below.refl _ _).drew
       rw [ht] at y6
       clear he HRW ht hen
       go_upto_region 11 with fail
       go_region
       go_wp2
       go_roundw
       case rel => exact ⟨5, by omega, by go_num, HN.out⟩
       case measure => simp [intOf]
     ·rcases ent_of hen (e := 5) (by omega) with he | he
      ·have HN : Hid (L2 W rb q ba bs ca cc g p (entK p 6) wr) := by
        have e : entK p 6 = entK p 5 := if_neg (by rw [he]; decide)
        show L2 W rb q ba bs ca cc g p (entK p 6) wr
        rw [e]
        exact HS.out
       rw [he] at y7
       clear he hen
       go_wp2
       go_roundw
       case rel => exact ⟨6, by omega, by go_num, HN.out⟩
       case measure => simp [intOf]
      ·obtain ⟨t, ht, htn⟩ : ∃ t : Nat, p.en 5 = (t : Int) ∧ t < p.n := ⟨_, (isPl_nat he).1, (isPl_nat he).2⟩
       have HRW := hide (HS.out.rw (by omega))
       obtain ⟨q0, q1, ql, a0, af, al, bl, _⟩ := HRW.out.at_ t htn
       have hca := HRW.out.hca
       have HN : Hid (L2 W rb q ba bs ca cc g p (entK p 6) (wr.setCell ⟨ba, t, none⟩ (.bool true)).drew) := by
        have e : entK p 6 = updK (entK p 5) (p.en 5).toNat [] := if_pos (by rw [ht]; exact Int.natCast_nonneg t)
        have h2 := HRW.out.setA t htn
        rw [entK_nil] at h2
        rw [show (p.en 5).toNat = t by rw [ht]; simp] at e
        show L2 W rb q ba bs ca cc g p (entK p 6) _
        rw [e]
        exact (HS.out.step (by omega) h2.1 h2.2).next (Below.refl _ _).drew
       rw [ht] at y7
       clear he HRW ht hen
       go_upto_region 11 with fail
       go_region
       go_wp2
       go_roundw
       case rel => exact ⟨6, by omega, by go_num, HN.out⟩
       case measure => simp [intOf]
    ·obtain rfl : j = 6 := by omega
     have HG0 : Hid (goF p 0 = .ok (entK p 6) ∧ L2 W rb q ba bs ca cc g p (entK p 6) wr) := ⟨rfl, HS.out⟩
     clear HS
     simp only [show ((6 : Nat) : Int) = 6 from rfl]
     go_upto_region 13 with fail
     clear y2 y3 y4 y5 y6 y7 yl
     go_loopw [7] (fun i wr => ∃ j : Nat, j ≤ p.n ∧ i = .int .i64 (j : Nat) ∧ Hid (∃ k, goF p j = .ok k ∧ L2 W rb q ba bs ca cc g p k wr)) (fun i _ => p.n - (intOf i).toNat)
     case atStart => exact ⟨0, by omega, rfl, _, HG0.out⟩
     case round =>
      obtain ⟨j, hj, rfl, HJ⟩ := hrel
      clear HG0
      obtain ⟨k, hgo, hl2⟩ := HJ.out
      have HS := hide hl2
      have HGO := hide hgo
      clear HJ hl2 hgo
      have y0 := block_cell HS.out.prg 0
      have y1 := block_cell HS.out.prg 1
      have y2 := block_cell HS.out.prg 2
      have y3 := block_cell HS.out.prg 3
      have y4 := block_cell HS.out.prg 4
      have y5 := block_cell HS.out.prg 5
      have y6 := block_cell HS.out.prg 6
      have y7 := block_cell HS.out.prg 7
      have y8 := block_cell HS.out.prg 8
      have yl := block_lt HS.out.prg
      simp [Pg.cs] at y0 y1 y2 y3 y4 y5 y6 y7 y8
      by_cases hlt : j < p.n
      ·obtain ⟨q0, q1, ql, a0, af, al, bl, _⟩ := (HS.out.rw (by omega)).at_ j hlt
       have hca := (HS.out.rw (by omega)).hca
       have HNX := hide (goF_next HGO.out)
       cases hk : (k j).isSome
       ·rw [hk] at a0
        have HD : Hid (goF p (j + 1) = .ok k) := by show _ = _; rw [HNX.out, if_neg (by rw [hk]; simp)]
        clear hk
        go_wp2
        go_roundw
        case rel => exact ⟨j + 1, by omega, by go_num, k, HD.out, HS.out⟩
        case measure => simp [intOf]; omega
       ·rw [hk] at a0
        have HVI := hide (visitR (HS.out.rw (by omega)) (goF_kb HGO.out) j (InOk.of HIN.out hlt) HSL.out hn)
        rw [HCS.out] at HVI
        have HNX2 : Hid (goF p (j + 1) = match visitF p k j with
         | .ok k' => .ok k'
         | .error y => .error ((j : Int), y)) := by show _ = _; rw [HNX.out, if_pos hk]
        clear hk HNX
        go_wp2_with fail
        refine HVI.out.mono ?_
        intro e w9 hh9
        generalize visitF p k j = r9 at *
        cases r9 with
        | ok k9 =>
         obtain ⟨rfl, G9⟩ := hh9
         have HD : Hid (goF p (j + 1) = .ok k9 ∧ L2 W rb q ba bs ca cc g p k9 w9) := ⟨HNX2.out, HS.out.step (by omega) G9.out.1 G9.out.2⟩
         clear HNX2 HVI HS HGO
         go_wp2
         go_roundw
         case rel => exact ⟨j + 1, by omega, by go_num, k9, HD.out⟩
         case measure => simp [intOf]; omega
        | error z =>
         obtain ⟨rfl, hne, G9⟩ := hh9
         have hr : r = .error ((j : Int), z) := by
          rw [← HR.out]
          exact goF_stays (j := j + 1) (by omega) HNX2.out
         subst hr
         obtain ⟨hb9, hr9⟩ := HS.out.bel2 (by omega) G9.out
         have hz : (z != 0) = true := by simpa using hne
         have HB9 := hide hb9
         have HR9 := hide hr9
         have HLR := hide HS.out.lr
         clear HNX2 HVI HS HGO hb9 hr9 y0 y1 y2 y3 y4 y5 y6 y7 y8 yl q0 q1 ql a0 af al bl
         go_wp2_with fail
         refine (refuseR _ _ _).mono ?_
         rintro e w3 ⟨ao, cap, rfl, G⟩
         obtain ⟨b, off, hf, hb⟩ := G.out
         have A3 := (hb.block _ (block_lt HR9.out)).trans HR9.out
         have z0 := block_cell A3 0
         have z1 := block_cell A3 1
         have f0 := block_free A3 0
         have f1 := block_free A3 1
         have zl := block_lt A3
         simp at z0 z1
         have HD := hide (rf_end (W := W) A3 HLR.out (HB9.out.trans (hb.mono HB9.out.size)) hf cap z)
         clear hf hb A3 G
         go_wp2
         refine bodyPost_ret (v := .tuple #[.pointer (some ⟨q, 0, none⟩), .agg #[.slice ao 1 cap, .int .i64 z]]) (by simp [results, Tryz.results127, go_sem, z0, z1]) rfl ?_
         exact ⟨q, ao, cap, rfl, hne, b, off, HD.out⟩
      ·obtain rfl : j = p.n := by omega
       have hr : r = .ok k := by rw [← HR.out]; exact HGO.out
       subst hr
       have z0 := block_cell HS.out.res 0
       have z1 := block_cell HS.out.res 1
       have f0 := block_free HS.out.res 0
       have f1 := block_free HS.out.res 1
       have zl := block_lt HS.out.res
       simp at z0 z1
       have HD : Hid ((0 < p.n → ∃ ba bs ca cc, RW W.heap.size ((wr.setCell ⟨rb, 0, none⟩ (.slice none 0 0)).setCell ⟨rb, 1, none⟩ (.int .i64 0)) q ba bs ca cc g p k) ∧ Below W.heap.size W ((wr.setCell ⟨rb, 0, none⟩ (.slice none 0 0)).setCell ⟨rb, 1, none⟩ (.int .i64 0))) := by
        refine ⟨fun h0 => ⟨ba, bs, ca, cc, ?_⟩, (HS.out.bel.setCell (p := ⟨rb, 0, none⟩) HQL.out _).setCell (p := ⟨rb, 1, none⟩) HQL.out _⟩
        exact (HS.out.rw h0).far HS.out.res HS.out.lr (grown_tr (grown_set wr rb 0 (.slice none 0 0)) (grown_set (wr.setCell ⟨rb, 0, none⟩ (.slice none 0 0)) rb 1 (.int .i64 0)))
       clear HGO HS y0 y1 y2 y3 y4 y5 y6 y7
       go_wp2
       refine bodyPost_ret (v := .tuple #[.pointer (some ⟨q, 0, none⟩), .agg #[.slice none 0 0, .int .i64 0]]) (by simp [results, Tryz.results127, go_sem, z0, z1]) rfl ?_
       exact ⟨q, rfl, HD⟩
end Go.Proofs.YtggpaljilpbmhaaGreatDoor
