import Derived.Test.YtmbclemicfffoaaLeD
import Derived.Test.YtmbclemicfffoaaBAv
import Derived.Carry
namespace Go.Proofs.Ytmbclemicfffoaa
open Go.RowKit

/-- A ledger's cells, just made, over its two maps. -/
noncomputable def led (a b : Nat) : Array Value :=
  Array.foldl (fun cs x => cs.setIfInBounds (3 + x.snd) x.fst) ((Try.zeroCells71.setIfInBounds 1 (.map (some a))).setIfInBounds 2 (.map (some b))) (Try.zeroCells66.setIfInBounds 0 (.int .u64 1)).zipIdx 0 321
set_option maxRecDepth 10000 in
set_option maxHeartbeats 800000 in
theorem blank_any (w : World) :
    Calls Try.prog 20 #[] w fun e w' => e = .returned (.pointer (some ⟨w.heap.size + 2, 0, none⟩)) ∧ w' = ((w.alloc (.map #[] 0)).alloc (.map #[] 0)).alloc (.cells (led w.heap.size (w.heap.size + 1)) 71) := by
  have m1 := run_makeMap (P := Try.prog) 60 w
  have m2 := fun o => run_makeMap (P := Try.prog) 61 (w.alloc o)
  go_enter Try.func20, Try.ntmps20
  go_wp2
  go_ret
  exact ⟨rfl, rfl⟩
theorem led_all (a b : Nat) : ((led a b)[0]?, (led a b)[1]?, (led a b)[2]?, (led a b)[3]?) = (some (.int .u64 0), some (.map (some a)), some (.map (some b)), some (.int .u64 1)) := by kernel_rfl
theorem lp_blank (w : World) : LP (((w.alloc (.map #[] 0)).alloc (.map #[] 0)).alloc (.cells (led w.heap.size (w.heap.size + 1)) 71)) (w.heap.size + 2) w.heap.size (w.heap.size + 1) [] 0 := by
  have hl := led_all w.heap.size (w.heap.size + 1)
  generalize led w.heap.size (w.heap.size + 1) = cs at *
  simp only [Prod.mk.injEq] at hl
  obtain ⟨l0, l1, l2, l3⟩ := hl
  have e1 : (w.alloc (.map #[] 0)).heap.size = w.heap.size + 1 := by simp
  have e2 : ((w.alloc (.map #[] 0)).alloc (.map #[] 0)).heap.size = w.heap.size + 2 := by simp
  have h2 := alloc_atK (w.alloc (.map #[] 0)) (.map #[] 0)
  have h3 := alloc_atK ((w.alloc (.map #[] 0)).alloc (.map #[] 0)) (.cells cs 71 (0, 0))
  rw [e1] at h2
  rw [e2] at h3
  refine ⟨⟨cs, h3, l0, l1, l2, l3⟩, ?_, ((World.grownBy_alloc _ _ none).block _ (by omega) (by simp)).trans h2, by omega⟩
  exact ((tam_made w).kept (World.grownBy_alloc _ _ none) (by simp)).kept (World.grownBy_alloc _ _ none) (by simp)
theorem blankA (w : World) : Calls Try.prog 20 #[] w fun e w' => ∃ p a b, e = .returned (.pointer (some ⟨p, 0, none⟩)) ∧ Hid (LP w' p a b [] 0 ∧ Below w.heap.size w w' ∧ w.heap.size ≤ p ∧ w.heap.size ≤ a) := by
  refine (blank_any w).mono ?_
  rintro e w' ⟨rfl, rfl⟩
  exact ⟨_, _, _, rfl, lp_blank w, (((Below.refl _ w).alloc (Nat.le_refl _) _).alloc (by simp) _).alloc (by simp; omega) _, by omega, Nat.le_refl _⟩
theorem byId_app (l : List Ac) (a : Ac) (h : byId l a.id = none) : byId (l ++ [a]) = updA (byId l) a := by
  funext x
  unfold updA byId at *
  rw [List.find?_append]
  by_cases e : x = a.id
  · subst e; rw [h, if_pos rfl]; simp
  · rw [if_neg e]
    have : (a.id == x) = false := by simp; exact fun h => e h.symm
    simp [this]
/-- One account more. -/
theorem LP.put {W W' : World} {p a b : Nat} {l : List Ac} {s : Nat} (h : LP W p a b l s) {x : Ac} (hno : byId l x.id = none) (ht : TAm W' a (l.length + 1) (updA (byId l) x)) (hg : W.grownBy W' (some a)) : LP W' p a b (l ++ [x]) s := by
  obtain ⟨cs, h1, h2⟩ := h.blk
  obtain ⟨es, k, h3⟩ := h.acc.obj
  have n1 : some p ≠ some a := fun e => by cases e; rw [h1] at h3; cases h3
  have n2 : some b ≠ some a := fun e => h.ne (Option.some.inj e).symm
  exact ⟨⟨cs, (hg.block _ (block_lt h1) n1).trans h1, h2⟩, by rw [byId_app l x hno, List.length_append]; exact ht, (hg.block _ (block_lt h.hol) n2).trans h.hol, h.ne⟩
/-- Another total. -/
theorem LP.sum {W : World} {p a b : Nat} {l : List Ac} {s : Nat} (h : LP W p a b l s) (s' : Nat) : LP (W.setCell ⟨p, 0, none⟩ (.int .u64 (s' : Nat))) p a b l s' := by
  obtain ⟨cs, h1, h2, h3, h4, h5⟩ := h.blk
  have hg := grown_set W p 0 (.int .u64 (s' : Nat))
  obtain ⟨es, k, h6⟩ := h.acc.obj
  have n1 : some a ≠ some p := fun e => by cases e; rw [h1] at h6; cases h6
  have n2 : some b ≠ some p := fun e => by cases e; have := h.hol; rw [h1] at this; cases this
  have hl : 0 < cs.size := by rcases Nat.eq_zero_or_pos cs.size with e | e; · rw [Array.getElem?_eq_none (by omega)] at h2; cases h2
                              · exact e
  refine ⟨⟨cs.setIfInBounds 0 (.int .u64 (s' : Nat)), ?_, by simp [hl], by simpa using h3, by simpa using h4, by simpa using h5⟩, h.acc.kept hg n1, (hg.block _ (block_lt h.hol) n2).trans h.hol, h.ne⟩
  exact heap_setCell_same W p 0 _ _ _ h1
end Go.Proofs.Ytmbclemicfffoaa
