import Derived.Test.YtdbolfnldbopoaaXfI
import Derived.Test.YtdbolfnldbopoaaXfBeginsRow
namespace Go.Proofs.Ytdbolfnldbopoaa
open Go.RowKit

theorem xferBeginsProof : Rows.XferBeginsSaid := xferBegins_of fun c me w hin _ _ => xbegins_walk c hin me w
end Go.Proofs.Ytdbolfnldbopoaa
