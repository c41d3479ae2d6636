import Derived.Test.YtppoloellajfhaaBMt
import Derived.Test.YtppoloellajfhaaBMeetRow
namespace Go.Proofs.Ytppoloellajfhaa
open Go.RowKit

theorem ballotMeetProof : Rows.BallotMeetSaid := ballotMeet_of fun c s t fr w hin hs ht _ _ => meet_walk c hin s t hs ht fr w
end Go.Proofs.Ytppoloellajfhaa
