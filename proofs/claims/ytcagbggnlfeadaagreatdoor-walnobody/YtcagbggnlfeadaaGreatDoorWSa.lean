import Derived.Test.YtcagbggnlfeadaaGreatDoorWSc
namespace Go.Proofs.YtcagbggnlfeadaaGreatDoor
open Go.RowKit Crc

end Go.Proofs.YtcagbggnlfeadaaGreatDoor
