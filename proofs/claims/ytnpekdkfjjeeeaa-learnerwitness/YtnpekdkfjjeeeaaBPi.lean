import Derived.Test.YtnpekdkfjjeeeaaBPh
import Derived.Test.YtnpekdkfjjeeeaaBPb
namespace Go.Proofs.Ytnpekdkfjjeeeaa
open Go.RowKit

end Go.Proofs.Ytnpekdkfjjeeeaa
