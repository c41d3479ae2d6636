import Derived.Test.YtppoloellajfhaaBOr
import Derived.Test.YtppoloellajfhaaBOrdersRow
namespace Go.Proofs.Ytppoloellajfhaa
open Go.RowKit

theorem ballotOrdersProof : Rows.BallotOrdersSaid := ballotOrders_of fun c n1 m1 n2 m2 w hin _ _ _ _ _ _ => by
  rcases badOf_cases c with hk | ⟨k, hk⟩
  · exact orders_ok c n1 m1 n2 m2 w (cf_ok hk) (fun W => groups_ok c hin hk W)
  · exact orders_bad c n1 m1 n2 m2 w (fun W => groups_bad c hin k hk W)
end Go.Proofs.Ytppoloellajfhaa
