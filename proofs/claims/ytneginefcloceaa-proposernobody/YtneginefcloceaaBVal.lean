import Derived.Test.YtneginefcloceaaBHi
namespace Go.Proofs.Ytneginefcloceaa
open Go.RowKit

/-- Is (n, m) a ballot of the group? -/
def Cf.valid (c : Cf) (n : Nat) (m : Int) : Bool := if n = 0 then decide (m = 0) else (decide (n ≤ c.mn) && c.node m)
end Go.Proofs.Ytneginefcloceaa
