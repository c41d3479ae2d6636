import Derived.Test.YthfbimbadkmhhaaMIN
import Derived.Test.YthfbimbadkmhhaaMIRow
namespace Go.Proofs.Ythfbimbadkmhhaa

theorem electionRises_holds : Rows.ElectionRisesSaid :=
  electionRises_of (fun i0 u1 u2 sb off _ len cap _ _ _ h1 h2 hO =>
    rises_walk i0 u1 u2 h1 h2 len cap sb off hO)
end Go.Proofs.Ythfbimbadkmhhaa
