import Derived.Test.YtcagbggnlfeadaaGreatDoorWRo
namespace Go.Proofs.YtcagbggnlfeadaaGreatDoor
open Go.RowKit Crc

attribute [local irreducible] seg frl hdr hdr0 flp scn tot big frm low4 Crc.sum

end Go.Proofs.YtcagbggnlfeadaaGreatDoor
