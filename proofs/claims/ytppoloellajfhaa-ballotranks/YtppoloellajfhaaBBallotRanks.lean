import Derived.Test.YtppoloellajfhaaBRx
import Derived.Test.YtppoloellajfhaaBRanksRow
namespace Go.Proofs.Ytppoloellajfhaa
open Go.RowKit

theorem ballotRanksProof : Rows.BallotRanksSaid := ballotRanks_of fun c n1 m1 n2 m2 w hin _ _ _ _ _ _ => ranks_walk c hin n1 m1 n2 m2 w
end Go.Proofs.Ytppoloellajfhaa
