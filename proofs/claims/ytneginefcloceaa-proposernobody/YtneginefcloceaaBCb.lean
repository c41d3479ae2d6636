import Derived.Test.YtneginefcloceaaBPh
import Derived.Test.YtneginefcloceaaBVi
namespace Go.Proofs.Ytneginefcloceaa
open Go.RowKit

/-- All replicas. -/
def allB (f : Int) : Int := if f = 1 then 7 else if f = 2 then 31 else 127
end Go.Proofs.Ytneginefcloceaa
