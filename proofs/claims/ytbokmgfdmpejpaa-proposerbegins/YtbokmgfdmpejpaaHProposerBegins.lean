import Derived.Test.YtbokmgfdmpejpaaHBe
import Derived.Test.YtbokmgfdmpejpaaHBeginsRow
namespace Go.Proofs.Ytbokmgfdmpejpaa
open Go.RowKit

theorem proposerBeginsProof : Rows.ProposerBeginsSaid := proposerBegins_of fun c me _ _ _ len cap _ w hin _ _ hlen hR hnm => begins_walk c hin me len cap hlen w hR hnm
end Go.Proofs.Ytbokmgfdmpejpaa
