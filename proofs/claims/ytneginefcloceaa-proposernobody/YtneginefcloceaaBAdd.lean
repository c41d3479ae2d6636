import Derived.Test.YtneginefcloceaaPBase
namespace Go.Proofs.Ytneginefcloceaa
open Go.RowKit

/-- a and b, at most most. -/
def addB (a b most : Nat) : Nat := if most ≤ a + b then most else a + b
end Go.Proofs.Ytneginefcloceaa
