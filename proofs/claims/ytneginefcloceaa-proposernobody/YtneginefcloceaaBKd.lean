import Derived.Test.YtneginefcloceaaBKc
namespace Go.Proofs.Ytneginefcloceaa
open Go.RowKit

/-- A refusal that a function hands out. -/
def FvP (w : World) (L : List Lk) (c : Int) (e : Ending) (w' : World) : Prop := ∃ ao cap, e = .returned (.agg #[.slice ao L.length cap, .int .i64 c]) ∧ Hid (∃ b off, FV w'.heap.size w' ao L b off ∧ Below w.heap.size w w')
theorem fv_one {w : World} {g : Nat} {l : Lk} (h0 : w.cell? ⟨g, 0, none⟩ = some (.string l.layer)) (h1 : w.cell? ⟨g, 1, none⟩ = some (.int .i64 l.at_)) : FV w.heap.size w (some ⟨g, 0, none⟩) [l] g 0 := by
  have hlt : g < w.heap.size := by
    rcases Nat.lt_or_ge g w.heap.size with h | h
    · exact h
    · simp [World.cell?, Array.getElem?_eq_none h] at h0
  refine ⟨fun _ => rfl, fun _ => hlt, by simp, fun i x hx => ?_⟩
  have hi := (List.getElem?_eq_some_iff.1 hx).1
  obtain rfl : i = 0 := by simpa using hi
  cases hx
  exact ⟨h0, h1⟩
end Go.Proofs.Ytneginefcloceaa
