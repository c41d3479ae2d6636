import Derived.Test.YtggpaljilpbmhaaGreatDoorZ26
import Derived.Lib.QuietBelow
namespace Go.Proofs.YtggpaljilpbmhaaGreatDoor
open Go.RowKit Go.Sort

end Go.Proofs.YtggpaljilpbmhaaGreatDoor
