import Derived.Test.YtppoloellajfhaaBBx
import Derived.Test.YtppoloellajfhaaBBetweenRow
namespace Go.Proofs.Ytppoloellajfhaa
open Go.RowKit

theorem ballotBetweenProof : Rows.BallotBetweenSaid := ballotBetween_of fun c n1 m1 nd nx mx w hin _ _ _ _ _ _ _ _ => between_walk c hin n1 m1 nd nx mx w
end Go.Proofs.Ytppoloellajfhaa
