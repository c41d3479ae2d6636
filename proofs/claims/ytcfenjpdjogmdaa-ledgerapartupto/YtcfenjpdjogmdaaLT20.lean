import Derived.Test.YtcfenjpdjogmdaaLT18
import Derived.Test.YtcfenjpdjogmdaaLT19
import Derived.Carry
namespace Go.Proofs.Ytcfenjpdjogmdaa
open Go.RowKit

/-- A ledger's cells, just made, over its two maps. -/
noncomputable def led (a b : Nat) : Array Value :=
  Array.foldl (fun cs x => cs.setIfInBounds (3 + x.snd) x.fst) ((Try.zeroCells77.setIfInBounds 1 (.map (some a))).setIfInBounds 2 (.map (some b))) (Try.zeroCells71.setIfInBounds 0 (.int .u64 1)).zipIdx 0 321
set_option maxRecDepth 10000 in
set_option maxHeartbeats 800000 in
theorem blank_any (w : World) :
    Calls Try.prog 42 #[] w fun e w' => e = .returned (.pointer (some ⟨w.heap.size + 2, 0, none⟩)) ∧ w' = ((w.alloc (.map #[] 0)).alloc (.map #[] 0)).alloc (.cells (led w.heap.size (w.heap.size + 1)) 77) := by
  have m1 := run_makeMap (P := Try.prog) 65 w
  have m2 := fun o => run_makeMap (P := Try.prog) 66 (w.alloc o)
  go_enter Try.func42, Try.ntmps42
  go_wp2
  go_ret
  exact ⟨rfl, rfl⟩
theorem led_all (a b : Nat) : ((led a b)[0]?, (led a b)[1]?, (led a b)[2]?, (led a b)[3]?) = (some (.int .u64 0), some (.map (some a)), some (.map (some b)), some (.int .u64 1)) := by kernel_rfl
theorem lp_blank (w : World) : LP (((w.alloc (.map #[] 0)).alloc (.map #[] 0)).alloc (.cells (led w.heap.size (w.heap.size + 1)) 77)) (w.heap.size + 2) w.heap.size (w.heap.size + 1) [] 0 := by
  have hl := led_all w.heap.size (w.heap.size + 1)
  generalize led w.heap.size (w.heap.size + 1) = cs at *
  simp only [Prod.mk.injEq] at hl
  obtain ⟨l0, l1, l2, l3⟩ := hl
  have e1 : (w.alloc (.map #[] 0)).heap.size = w.heap.size + 1 := by simp
  have e2 : ((w.alloc (.map #[] 0)).alloc (.map #[] 0)).heap.size = w.heap.size + 2 := by simp
  have h2 := alloc_atK (w.alloc (.map #[] 0)) (.map #[] 0)
  have h3 := alloc_atK ((w.alloc (.map #[] 0)).alloc (.map #[] 0)) (.cells cs 77 (0, 0))
  rw [e1] at h2
  rw [e2] at h3
  refine ⟨⟨cs, h3, l0, l1, l2, l3⟩, ?_, ((World.grownBy_alloc _ _ none).block _ (by omega) (by simp)).trans h2, by omega⟩
  exact ((tam_made w).kept (World.grownBy_alloc _ _ none) (by simp)).kept (World.grownBy_alloc _ _ none) (by simp)
theorem byId_app (l : List Ac) (a : Ac) (h : byId l a.id = none) : byId (l ++ [a]) = updA (byId l) a := by
  funext x
  unfold updA byId at *
  rw [List.find?_append]
  by_cases e : x = a.id
  · subst e; rw [h, if_pos rfl]; simp
  · rw [if_neg e]
    have : (a.id == x) = false := by simp; exact fun h => e h.symm
    simp [this]
/-- One account more. -/
theorem LP.put {W W' : World} {p a b : Nat} {l : List Ac} {s : Nat} (h : LP W p a b l s) {x : Ac} (hno : byId l x.id = none) (ht : TAm W' a (l.length + 1) (updA (byId l) x)) (hg : W.grownBy W' (some a)) : LP W' p a b (l ++ [x]) s := by
  obtain ⟨cs, h1, h2⟩ := h.blk
  obtain ⟨es, k, h3⟩ := h.acc.obj
  have n1 : some p ≠ some a := fun e => by cases e; rw [h1] at h3; cases h3
  have n2 : some b ≠ some a := fun e => h.ne (Option.some.inj e).symm
  exact ⟨⟨cs, (hg.block _ (block_lt h1) n1).trans h1, h2⟩, by rw [byId_app l x hno, List.length_append]; exact ht, (hg.block _ (block_lt h.hol) n2).trans h.hol, h.ne⟩
/-- Another total. -/
theorem LP.sum {W : World} {p a b : Nat} {l : List Ac} {s : Nat} (h : LP W p a b l s) (s' : Nat) : LP (W.setCell ⟨p, 0, none⟩ (.int .u64 (s' : Nat))) p a b l s' := by
  obtain ⟨cs, h1, h2, h3, h4, h5⟩ := h.blk
  have hg := grown_set W p 0 (.int .u64 (s' : Nat))
  obtain ⟨es, k, h6⟩ := h.acc.obj
  have n1 : some a ≠ some p := fun e => by cases e; rw [h1] at h6; cases h6
  have n2 : some b ≠ some p := fun e => by cases e; have := h.hol; rw [h1] at this; cases this
  have hl : 0 < cs.size := by rcases Nat.eq_zero_or_pos cs.size with e | e; · rw [Array.getElem?_eq_none (by omega)] at h2; cases h2
                              · exact e
  refine ⟨⟨cs.setIfInBounds 0 (.int .u64 (s' : Nat)), ?_, by simp [hl], by simpa using h3, by simpa using h4, by simpa using h5⟩, h.acc.kept hg n1, (hg.block _ (block_lt h.hol) n2).trans h.hol, h.ne⟩
  exact heap_setCell_same W p 0 _ _ _ h1
end Go.Proofs.Ytcfenjpdjogmdaa
namespace Go.Proofs.Ytcfenjpdjogmdaa
open Go.RowKit

def sumA (l : List Ac) : Nat := (l.map Ac.ba).sum
theorem sumA_app (l : List Ac) (a : Ac) : sumA (l ++ [a]) = sumA l + a.ba := by simp [sumA]
/-- The first k accounts are without fault. -/
def Good (l : List Ac) (k : Nat) : Prop := ∀ (i : Nat) (a : Ac), i < k → l[i]? = some a → faultA (l.take i) (sumA (l.take i)) a = 0
/-- Account k is the first with a fault: c. -/
def Bad (l : List Ac) (k c : Nat) : Prop := ∃ a, l[k]? = some a ∧ Good l k ∧ faultA (l.take k) (sumA (l.take k)) a = c ∧ c ≠ 0
theorem Good.step {l : List Ac} {k : Nat} {a : Ac} (h : Good l k) (ha : l[k]? = some a) (hf : faultA (l.take k) (sumA (l.take k)) a = 0) : Good l (k + 1) := fun i x hi hx => by
  by_cases e : i = k
  · subst e; rw [ha] at hx; cases hx; exact hf
  · exact h i x (by omega) hx
theorem good_bad {l : List Ac} {k c : Nat} (h : Good l l.length) (h' : Bad l k c) : False := by
  obtain ⟨a, h1, _, h3, h4⟩ := h'
  exact h4 (by rw [← h3]; exact h k a (List.getElem?_eq_some_iff.1 h1).1 h1)
theorem fault_zero {l : List Ac} {s : Nat} {a : Ac} (h : faultA l s a = 0) : a.id ≠ 0 ∧ byId l a.id = none ∧ a.ba ≤ a.cp ∧ a.ba ≤ 18446744073709551615 - s := by
  unfold faultA at h
  split at h
  · cases h
  split at h
  · cases h
  split at h
  · cases h
  split at h
  · cases h
  rename_i h1 h2 h3 h4
  refine ⟨h1, ?_, by omega, by omega⟩
  cases e : byId l a.id with
  | none => rfl
  | some y => rw [e] at h2; exact absurd rfl h2
end Go.Proofs.Ytcfenjpdjogmdaa
namespace Go.Proofs.Ytcfenjpdjogmdaa
open Go.RowKit

/-- One account more, at its place. -/
def insA : List Ac → Ac → List Ac
  | [], a => [a]
  | x :: r, a => if a.id < x.id then a :: x :: r else x :: insA r a
theorem insA_len : ∀ (l : List Ac) (a : Ac), (insA l a).length = l.length + 1
  | [], a => rfl
  | x :: r, a => by unfold insA; split; · rfl
                    · simp [insA_len r a]
theorem row_lower {w : World} {base base' : Nat} {e : TypeId} {size : Nat} {v : Value} {n : Nat} {xs : List Value} (h : w.ownsRow base e size v n xs) (hb : base' ≤ base) : w.ownsRow base' e size v n xs := by
  refine ⟨h.1, ?_⟩
  rcases h.2 with h | ⟨g, cap, cur, e1, e2, e3⟩
  · exact .inl h
  · exact .inr ⟨g, cap, cur, e1, Nat.le_trans hb e2, e3⟩
/-- A row of accounts of one's own, and nothing else has turned. -/
structure Wr (W1 : World) (v : Value) (m : List Ac) (V : World) : Prop where
  bel : Below W1.heap.size W1 V
  row : V.ownsRow W1.heap.size 80 4 v m.length (acells m)
theorem Wr.start (W1 : World) : Wr W1 (.slice none 0 0) [] W1 := ⟨Below.refl _ _, World.ownsRow_nil _ _ _ _⟩
theorem Wr.app {W1 : World} {v v' : Value} {m : List Ac} {V w4 : World} (h : Wr W1 v m V) (o : Obj) (x : Ac) (ho : w4.ownsRow W1.heap.size 80 4 v' (m.length + 1) (acells m ++ x.vals)) (hg : (V.alloc o).grownBy w4 v.ownBlock) : Wr W1 v' (m ++ [x]) w4 := by
  refine ⟨(h.bel.alloc h.bel.size o).grown hg (by simp; have := h.bel.size; omega) (fun j e => (h.row.lt j e).1), ?_⟩
  rw [acells_app, List.length_append]
  have e : acells [x] = x.vals := by simp [acells]
  rw [e]
  exact ho
theorem Wr.drewN {W1 : World} {v : Value} {m : List Ac} {V : World} (h : Wr W1 v m V) (q : Nat) : Wr W1 v m (V.drewN q) := ⟨below_dA h.bel q, h.row⟩
end Go.Proofs.Ytcfenjpdjogmdaa
