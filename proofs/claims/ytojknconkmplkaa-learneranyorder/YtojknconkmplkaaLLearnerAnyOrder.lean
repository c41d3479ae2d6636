import Derived.Test.YtojknconkmplkaaLWb
import Derived.Test.YtojknconkmplkaaLAnyRow
namespace Go.Proofs.Ytojknconkmplkaa
open Go.RowKit

theorem learnerAnyOrderProof : Rows.LearnerAnyOrderSaid := learnerAnyOrder_of fun c _ _ _ len cap _ w hin hn hle hV hao hvl => any_walk c hin w len cap hn hV hao hvl hle
end Go.Proofs.Ytojknconkmplkaa
