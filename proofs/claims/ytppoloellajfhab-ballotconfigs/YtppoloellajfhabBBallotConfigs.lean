import Derived.Test.YtppoloellajfhabBCw
import Derived.Test.YtppoloellajfhabBConfigsRow
namespace Go.Proofs.Ytppoloellajfhab
open Go.RowKit

theorem ballotConfigsProof : Rows.BallotConfigsSaid := ballotConfigs_of fun c nd w hin _ _ => by
  rcases badOf_cases c with hk | ⟨k, hk⟩
  · exact configs_ok c nd w (cf_ok hk) (fun W => groups_ok c hin hk W)
  · exact configs_bad c nd w (fun W => groups_bad c hin k hk W)
end Go.Proofs.Ytppoloellajfhab
