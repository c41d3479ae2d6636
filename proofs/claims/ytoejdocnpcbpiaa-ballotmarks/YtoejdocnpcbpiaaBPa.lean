import Derived.Test.YtoejdocnpcbpiaaBSk
import Derived.Laws.Externs
namespace Go.Proofs.Ytoejdocnpcbpiaa
open Go.RowKit

/-- No group that New made: nil, or one whose F is 0. -/
def Dead (W : World) (a : Option Addr) : Prop := a = none ∨ ∃ p, a = some ⟨p, 0, none⟩ ∧ p < W.heap.size ∧ W.cell? ⟨p, 0, none⟩ = some (.int .i64 0)
theorem Dead.kept {W W' : World} {a : Option Addr} (h : Dead W a) (hb : Below W.heap.size W W') : Dead W' a := by
  rcases h with h | ⟨p, h1, h2, h3⟩
  · exact .inl h
  · exact .inr ⟨p, h1, Nat.lt_of_lt_of_le h2 hb.size, (hb.cell (p := ⟨p, 0, none⟩) h2).trans h3⟩
end Go.Proofs.Ytoejdocnpcbpiaa
