import Derived.Test.YtkjkhohbhgglnaaBPa
import Derived.Test.YtkjkhohbhgglnaaBThr
namespace Go.Proofs.Ytkjkhohbhgglnaa
open Go.RowKit

end Go.Proofs.Ytkjkhohbhgglnaa
