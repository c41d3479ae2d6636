import Derived.Test.YtdbolfnldbopoaaBPa
import Derived.Test.YtdbolfnldbopoaaBThr
namespace Go.Proofs.Ytdbolfnldbopoaa
open Go.RowKit

end Go.Proofs.Ytdbolfnldbopoaa
