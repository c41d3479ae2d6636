import Derived.Test.YtneginefcloceaaBPh
import Derived.Test.YtneginefcloceaaBPb
namespace Go.Proofs.Ytneginefcloceaa
open Go.RowKit

end Go.Proofs.Ytneginefcloceaa
