import Derived.Test.YtneginefcloceaaBPk
namespace Go.Proofs.Ytneginefcloceaa
open Go.RowKit

/-- A number and an error. -/
def NumR (w : World) (n : Int) (L : List Lk) (k : Int) (e : Ending) (w' : World) : Prop := ∃ ev, e = .returned (.tuple #[.int .u64 n, ev]) ∧ Hid (ErrP w' L k ev ∧ Below w.heap.size w w')
/-- The rank. -/
def Cf.rank (c : Cf) (n m : Int) : Int := if n = 0 then 0 else (n - 1) * (2 * c.f + 1) + m + 1
end Go.Proofs.Ytneginefcloceaa
