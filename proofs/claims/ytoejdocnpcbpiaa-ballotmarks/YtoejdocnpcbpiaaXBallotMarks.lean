import Derived.Test.YtoejdocnpcbpiaaXW
import Derived.Test.YtoejdocnpcbpiaaXMarksRow
namespace Go.Proofs.Ytoejdocnpcbpiaa

theorem ballotMarks_holds : Rows.BallotMarksSaid :=
  ballotMarks_of (fun _ _ _ len0 cap0 _ i1 u2 u3 u4 w hn hU ha hb hk1 _ h2 h3 h4 =>
    marks_walk len0 cap0 hn i1 hk1 u2 u3 u4 h2 h3 h4 w ha hb hU)
end Go.Proofs.Ytoejdocnpcbpiaa
