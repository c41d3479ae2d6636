import Derived.Test.YtggpaljilpbmhaaGreatDoorW14
import Derived.Orders
namespace Go.Proofs.YtggpaljilpbmhaaGreatDoor
open Go.RowKit

section
variable {P : Program} {ops : Array Oper} {Q : Exit → Act → World → Prop} {a : Act} {w : World} {rest : List Oper} {o1 o2 o3 o4 o5 o6 o7 o8 o9 o10 : Oper}
end
end Go.Proofs.YtggpaljilpbmhaaGreatDoor
