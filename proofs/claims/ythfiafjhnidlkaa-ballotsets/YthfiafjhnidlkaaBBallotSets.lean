import Derived.Test.YthfiafjhnidlkaaBSe
import Derived.Test.YthfiafjhnidlkaaBSetsRow
namespace Go.Proofs.Ythfiafjhnidlkaa
open Go.RowKit

theorem ballotSetsProof : Rows.BallotSetsSaid := ballotSets_of fun c s t nd w hin hs ht _ _ => sets_walk c hin s t hs ht nd w
end Go.Proofs.Ythfiafjhnidlkaa
