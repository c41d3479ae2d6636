import Derived.Test.YtkdciomijemmiaaMM
import Derived.Test.YtkdciomijemmiaaMH
namespace Go.Proofs.Ytkdciomijemmiaa

theorem electionQuiet_holds : Rows.ElectionQuietSaid :=
  electionQuiet_of (fun u0 sb1 off1 ao1 len1 cap1 rs1 sb2 off2 ao2 len2 cap2 xs2 w h0 hn1 hR hn2 hU ha hb =>
    quiet_walk u0 h0 len1 cap1 hn1 hR len2 cap2 hn2 ⟨ha, hb, fun i hi => by
      rw [List.getD_eq_getElem?_getD, List.getElem?_eq_getElem hi]
      exact hU i _ (List.getElem?_eq_getElem hi)⟩)
#print axioms electionQuiet_holds
end Go.Proofs.Ytkdciomijemmiaa
