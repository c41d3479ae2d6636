import Derived.Test.YtnpekdkfjjeeeaaJSt
import Derived.Test.YtnpekdkfjjeeeaaJStaysRow
namespace Go.Proofs.Ytnpekdkfjjeeeaa
open Go.RowKit

theorem learnerStaysProof : Rows.LearnerStaysSaid := learnerStays_of fun c low _ _ _ len1 cap1 _ slot _ _ _ len2 cap2 _ w hin _ hl1 _ hR1 hs hl2 _ hR2 => stays_walk c hin low w len1 cap1 hl1 hR1 slot hs len2 cap2 hl2 hR2
end Go.Proofs.Ytnpekdkfjjeeeaa
