import Derived.Test.YtggpaljilpbmhaaGreatDoorZ24
import Derived.StillTail
namespace Go.Proofs.YtggpaljilpbmhaaGreatDoor
open Go.RowKit

section
variable {P : Program} {ops : Array Oper} {Q : Exit → Act → World → Prop} {md : Region.Mode} {g : Nat} {S1 S2 : World → Prop}
end
end Go.Proofs.YtggpaljilpbmhaaGreatDoor
