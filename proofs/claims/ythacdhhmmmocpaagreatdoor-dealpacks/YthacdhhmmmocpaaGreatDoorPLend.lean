import Derived.Test.YthacdhhmmmocpaaGreatDoorM0
namespace Go.Proofs.YthacdhhmmmocpaaGreatDoor
open Go.RowKit Crc

end Go.Proofs.YthacdhhmmmocpaaGreatDoor
