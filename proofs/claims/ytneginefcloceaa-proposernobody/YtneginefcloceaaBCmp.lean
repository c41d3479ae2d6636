import Derived.Test.YtneginefcloceaaPBase
namespace Go.Proofs.Ytneginefcloceaa
open Go.RowKit

/-- The order of two ballots. -/
def cmpB (n1 m1 n2 m2 : Int) : Int := if n1 = n2 then (if m1 = m2 then 0 else if m1 < m2 then -1 else 1) else if n1 < n2 then -1 else 1
end Go.Proofs.Ytneginefcloceaa
