import Derived.Test.YthacdhhmmmocpaaGreatDoorPLent
namespace Go.Proofs.YthacdhhmmmocpaaGreatDoor
open Go.RowKit Crc

end Go.Proofs.YthacdhhmmmocpaaGreatDoor
