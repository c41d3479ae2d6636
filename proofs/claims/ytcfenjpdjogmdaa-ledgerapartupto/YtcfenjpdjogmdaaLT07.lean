import Derived.Test.YtcfenjpdjogmdaaLT05
import Derived.Test.YtcfenjpdjogmdaaLT19
namespace Go.Proofs.Ytcfenjpdjogmdaa
open Go.RowKit Go.Shelf
attribute [local go_sem] Oper.semAt_some

theorem infoU64 : (Try.prog.info? 25).map (fun i => (i.zero, i.size, i.bytes)) = some (some (.int .u64 0), 1, 8) := by kernel_rfl
/-- A row of cells abides what turns no cells. -/
theorem ownsRow_abides {base size k : Nat} {e : TypeId} {W W' : World} {v : Value} {xs : List Value} {row : Option Nat} (h : W.ownsRow base e size v k xs) (hg : W.grownBy W' row) (hr : ∀ r, row = some r → ∃ o : Obj, W.heap[r]? = some o ∧ o.isCells = false) : W'.ownsRow base e size v k xs := by
  refine h.kept hg ?_
  cases hv : v.ownBlock with
  | none => exact .inl rfl
  | some g =>
    refine .inr (fun e => ?_)
    obtain ⟨o, h1, h2⟩ := hr g e.symm
    rcases h.2 with ⟨rfl, _⟩ | ⟨g', cap, cur, rfl, _, hb, _⟩
    · cases hv
    · cases hv
      rw [hb] at h1
      cases h1
      cases h2
/-- While AppendSeq goes: the box, and what has come so far. -/
structure AQ (w : World) (Bs : Nat) (pre : List Nat) (W : World) : Prop where
  bx : ∃ v, W.heap[Bs]? = some (.cells #[v] 110 (0, 0)) ∧ W.ownsRow w.heap.size 25 1 v pre.length (pre.map encU)
  bel : Below w.heap.size w W
theorem AQ.grown {w : World} {Bs : Nat} {pre : List Nat} {W W' : World} {row : Option Nat} (h : AQ w Bs pre W) (hg : W.grownBy W' row) (hr : ∀ r, row = some r → w.heap.size + 1 ≤ r ∧ ∃ o : Obj, W.heap[r]? = some o ∧ o.isCells = false) : AQ w Bs pre W' := by
  obtain ⟨v, h1, h2⟩ := h.bx
  refine ⟨⟨v, (hg.block _ (block_lt h1) (fun e => ?_)).trans h1, ownsRow_abides h2 hg (fun r e => (hr r e).2)⟩, h.bel.grown hg h.bel.size (fun k e => Nat.le_trans (Nat.le_succ _) (hr k e).1)⟩
  obtain ⟨o, h3, h4⟩ := (hr Bs e.symm).2
  rw [h1] at h3
  cases h3
  cases h4
theorem row_boxU {base k : Nat} {w : World} {v : Value} {xs : List Value} {j : Nat} {X : Array Value} (h : w.ownsRow base 25 1 v k xs) (hX : w.heap[j]? = some (.cells X 110 (0, 0))) : v.ownBlock ≠ some j := fun e => by
  rcases h.2 with ⟨rfl, _⟩ | ⟨g', cap, cur, rfl, _, hb, _⟩
  · cases e
  · cases e
    rw [hb] at hX
    cases hX
end Go.Proofs.Ytcfenjpdjogmdaa
namespace Go.Proofs.Ytcfenjpdjogmdaa
open Go.RowKit

end Go.Proofs.Ytcfenjpdjogmdaa
