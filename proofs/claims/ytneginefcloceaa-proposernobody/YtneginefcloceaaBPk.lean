import Derived.Test.YtneginefcloceaaBPj
namespace Go.Proofs.Ytneginefcloceaa
open Go.RowKit

theorem two_cells (w : World) (a b c d : Value) (t : TypeId) : Below w.heap.size w ((w.alloc (.cells #[a, b] t)).alloc (.cells #[c, d] t)).drew ∧ ((w.alloc (.cells #[a, b] t)).alloc (.cells #[c, d] t)).drew.cell? ⟨w.heap.size, 0, none⟩ = some a ∧ ((w.alloc (.cells #[a, b] t)).alloc (.cells #[c, d] t)).drew.cell? ⟨w.heap.size, 1, none⟩ = some b ∧ ((w.alloc (.cells #[a, b] t)).alloc (.cells #[c, d] t)).drew.cell? ⟨w.heap.size + 1, 0, none⟩ = some c ∧ ((w.alloc (.cells #[a, b] t)).alloc (.cells #[c, d] t)).drew.cell? ⟨w.heap.size + 1, 1, none⟩ = some d := by
  obtain ⟨h1, h2⟩ := two_box w (.cells #[a, b] t) (.cells #[c, d] t)
  exact ⟨(((Below.refl _ w).alloc (Nat.le_refl _) _).alloc (by simp) _).drew, block_cell h1 0, block_cell h1 1, block_cell h2 0, block_cell h2 1⟩
end Go.Proofs.Ytneginefcloceaa
