import Derived.Test.YtneginefcloceaaBNok
namespace Go.Proofs.Ytneginefcloceaa
open Go.RowKit

/-- An error that is told so: none, or a chain of faults. -/
def ErrP (w : World) (L : List Lk) (c : Int) (v : Value) : Prop := (v = .nilIface ∧ L = [] ∧ c = 0) ∨ (Chain w.heap.size w L v c ∧ 0 < L.length ∧ L.length ≤ 11 ∧ c ≠ 0)
theorem ErrP.below {w w' : World} {L : List Lk} {c : Int} {v : Value} (h : ErrP w L c v) (hb : Below w.heap.size w w') : ErrP w' L c v := by
  rcases h with h | ⟨h1, h2⟩
  · exact .inl h
  · exact .inr ⟨(Chain.below hb h1).wide hb.size, h2⟩
/-- A value and an error. -/
def PNewP (w : World) (gp : Value) (L : List Lk) (c : Int) (e : Ending) (w' : World) : Prop := ∃ ev, e = .returned (.tuple #[gp, ev]) ∧ Hid (ErrP w' L c ev ∧ Below w.heap.size w w')
theorem cfg_cells {W : World} {n : Nat} {c : Cf} {t : TypeId} (h : W.heap[n]? = some (.cells c.cells t (0, 0))) :
    W.cell? ⟨n, 0, none⟩ = some (.int .i64 c.f) ∧ W.cell? ⟨n, 1, none⟩ = some (.int .i64 c.mb) ∧ W.cell? ⟨n, 2, none⟩ = some (.int .u64 (c.delay : Nat)) ∧ W.cell? ⟨n, 3, none⟩ = some (.int .u64 (c.win : Nat)) ∧ W.cell? ⟨n, 4, none⟩ = some (.int .u64 (c.every : Nat)) ∧ W.cell? ⟨n, 5, none⟩ = some (.int .u64 (c.beat : Nat)) ∧ W.cell? ⟨n, 6, none⟩ = some (.int .u64 (c.ep : Nat)) ∧ W.cell? ⟨n, 7, none⟩ = some (.int .u64 (c.em : Nat)) ∧ W.cell? ⟨n, 8, none⟩ = some (.int .u64 (c.mn : Nat)) ∧ W.cell? ⟨n, 9, none⟩ = some (.int .u64 (c.ms : Nat)) :=
  ⟨block_cell h 0, block_cell h 1, block_cell h 2, block_cell h 3, block_cell h 4, block_cell h 5, block_cell h 6, block_cell h 7, block_cell h 8, block_cell h 9⟩
end Go.Proofs.Ytneginefcloceaa
