import Derived.Test.YtggpaljilpbmhaaGreatDoorY13
namespace Go.Proofs.YtggpaljilpbmhaaGreatDoor
open Go.RowKit

theorem own_val {w : World} {base n : Nat} {t : TypeId} {v : Value} {xs : List Value} (h : w.ownsRow base t 1 v n xs) : ∃ ao cap, v = .slice ao n cap := by
 rcases h.2 with ⟨e3, e0⟩ | ⟨g3, cap, cur, e3, _⟩
 ·exact ⟨none, 0, by rw [e3, e0]⟩
 ·exact ⟨_, cap, e3⟩
theorem stat_none {p : Pv} (h : statF p = none) : sizeF p = none ∧ slotF p = none ∧ entF p = none ∧ insF p = none := by
 unfold statF at h
 cases e0 : sizeF p with
 | some y => rw [e0] at h; cases h
 | none =>
  rw [e0] at h
  cases e1 : slotF p with
  | some y => rw [e1] at h; cases h
  | none =>
   rw [e1] at h
   cases e2 : entF p with
   | some y => rw [e2] at h; cases h
   | none =>
    rw [e2] at h
    exact ⟨rfl, rfl, rfl, h⟩
theorem size_none {p : Pv} (h : sizeF p = none) : p.nc ≤ 256 ∧ p.ns ≤ 128 ∧ p.n ≤ 1024 := by
 unfold sizeF at h
 split at h
 ·cases h
 ·split at h
  ·cases h
  ·split at h
   ·cases h
   ·omega
theorem slot_none {p : Pv} (h : slotF p = none) : ∀ j, j < p.ns → p.S j = 0 ∨ p.S j = 1 := by
 have key : ∀ n, firstBad (slotB p) n = none → ∀ j, j < n → slotB p j = none := by
  intro n
  induction n with
  | zero => intro _ j hj; omega
  | succ n ih =>
   intro h j hj
   unfold firstBad at h
   have h1 : firstBad (slotB p) n = none := by
    cases e : firstBad (slotB p) n with
    | none => rfl
    | some r => rw [e] at h; cases h
   rw [h1] at h
   by_cases e : j = n
   ·subst e; simpa using h
   ·exact ih h1 j (by omega)
 intro j hj
 have := key p.ns h j hj
 unfold slotB at this
 split at this
 ·cases this
 ·rename_i h1
  by_cases e : p.S j = 0
  ·exact .inl e
  ·right
   by_cases e1 : p.S j = 1
   ·exact e1
   ·exact absurd ⟨e, e1⟩ h1
theorem RW.far {lim : Nat} {w w' : World} {q ba bs ca cc rb : Nat} {g : Pg} {p : Pv} {k : Kn} (h : RW lim w q ba bs ca cc g p k) {cs : Array Value} {z : Nat × Nat} (hr : w.heap[rb]? = some (.cells cs 54 z)) (hl : lim ≤ rb) (hg : w.grownBy w' (some rb)) : RW lim w' q ba bs ca cc g p k := by
 have K : ∀ {b : Nat} {cs' : Array Value} {t' : TypeId} {z' : Nat × Nat}, (54 : TypeId) ≠ t' → w.heap[b]? = some (.cells cs' t' z') → w'.heap[b]? = some (.cells cs' t' z') := fun hne e =>
  (hg.block _ (block_lt e) (fun x => by cases x; rw [hr] at e; cases e; exact hne rfl)).trans e
 obtain ⟨c1, a1, a2⟩ := h.rowA
 obtain ⟨c2, b1, b2⟩ := h.rowB
 refine ⟨K (by decide) h.blk, ⟨c1, K (by decide) a1, a2⟩, ⟨c2, K (by decide) b1, fun j hj => ?_⟩, h.ok.kept (below_of_grown hg hl h.le) (Nat.le_refl _), h.lq, h.la, h.lb, h.hca, h.hcc⟩
 obtain ⟨v, e1, e2⟩ := b2 j hj
 exact ⟨v, e1, e2.kept (fun b cs e => (K (by decide) e).trans e.symm)⟩
end Go.Proofs.YtggpaljilpbmhaaGreatDoor
namespace Go.Proofs.YtggpaljilpbmhaaGreatDoor
open Go.RowKit

theorem verF_stat (p : Pv) : verF p = match statF p with
  | some y => .error y
  | none => goF p p.n := by
 unfold verF statF
 cases sizeF p with
 | some y => rfl
 | none =>
  cases slotF p with
  | some y => rfl
  | none =>
   cases entF p with
   | some y => rfl
   | none =>
    cases insF p with
    | some y => rfl
    | none => rfl
theorem FV.next {w w' : World} {ao : Option Addr} {L : List Lk} {b off : Nat} (h : FV w.heap.size w ao L b off) (hb : Below w.heap.size w w') : FV w'.heap.size w' ao L b off := (h.below hb).wide hb.size
theorem RW.low {lim lim' : Nat} {w : World} {q ba bs ca cc : Nat} {g : Pg} {p : Pv} {k : Kn} (h : RW lim w q ba bs ca cc g p k) (hl : lim' ≤ lim) (hok : g.Ok p lim' w) : RW lim' w q ba bs ca cc g p k :=
 ⟨h.blk, h.rowA, h.rowB, hok, Nat.le_trans hl h.lq, Nat.le_trans hl h.la, Nat.le_trans hl h.lb, h.hca, h.hcc⟩
end Go.Proofs.YtggpaljilpbmhaaGreatDoor
namespace Go.Proofs.YtggpaljilpbmhaaGreatDoor
open Go.RowKit

theorem KI.kl {w : World} {v : Value} {l : List Bool} (h : KI w v l) : KL w.heap.size w v l := by
 obtain ⟨ao, cap, h1, h2, h3⟩ := h
 by_cases e : 0 < l.length
 ·obtain ⟨b, cs, e1, e2, e3⟩ := h3 e
  exact ⟨ao, cap, b, 0, h1, h2, fun _ => ⟨e1, block_lt e2⟩, fun j x hx => by rw [Nat.zero_add]; exact (block_cell e2 j).trans (e3 j x hx)⟩
 ·refine ⟨ao, cap, 0, 0, h1, h2, fun x => absurd x e, fun j x hx => ?_⟩
  have := (List.getElem?_eq_some_iff.1 hx).1
  omega
end Go.Proofs.YtggpaljilpbmhaaGreatDoor
