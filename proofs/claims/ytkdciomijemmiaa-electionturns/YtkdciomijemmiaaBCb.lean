import Derived.Test.YtkdciomijemmiaaBPh
import Derived.Test.YtkdciomijemmiaaBVi
namespace Go.Proofs.Ytkdciomijemmiaa
open Go.RowKit

/-- All replicas. -/
def allB (f : Int) : Int := if f = 1 then 7 else if f = 2 then 31 else 127
end Go.Proofs.Ytkdciomijemmiaa
