import Derived.Test.YtppoloellajfhaaBTa
import Derived.Test.YtppoloellajfhaaBTotalRow
namespace Go.Proofs.Ytppoloellajfhaa
open Go.RowKit

theorem ballotTotalProof : Rows.BallotTotalSaid := ballotTotal_of fun n0 m0 n1 m1 n2 m2 w _ _ _ _ _ _ _ _ _ => total_walk n0 m0 n1 m1 n2 m2 w
end Go.Proofs.Ytppoloellajfhaa
