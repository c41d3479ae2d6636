import Derived.Test.YtkjkhohbhgglnaaBPh
import Derived.Test.YtkjkhohbhgglnaaBPb
namespace Go.Proofs.Ytkjkhohbhgglnaa
open Go.RowKit

end Go.Proofs.Ytkjkhohbhgglnaa
