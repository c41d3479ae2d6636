import Derived.Test.YthacdhhmmmocpaaGreatDoorM1
namespace Go.Proofs.YthacdhhmmmocpaaGreatDoor
open Go.RowKit Crc

end Go.Proofs.YthacdhhmmmocpaaGreatDoor
