import Derived.Test.YthfiafjhnidlkaaGG
import Derived.Test.YthfiafjhnidlkaaGReachRow
namespace Go.Proofs.Ythfiafjhnidlkaa
open Go.RowKit

theorem ballotReachProof : Rows.BallotReachSaid := ballotReach_of fun c _ _ _ len cap _ w hin hn hU had hbw => reach_walk c hin len cap hn w had hbw hU
end Go.Proofs.Ythfiafjhnidlkaa
