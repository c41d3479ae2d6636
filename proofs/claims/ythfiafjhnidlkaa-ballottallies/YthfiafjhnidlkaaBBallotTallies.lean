import Derived.Test.YthfiafjhnidlkaaM53
import Derived.Test.YthfiafjhnidlkaaBYx
import Derived.Test.YthfiafjhnidlkaaBTalliesRow
namespace Go.Proofs.Ythfiafjhnidlkaa
open Go.RowKit

theorem tallies_walk (c : Cf) (hin : c.In) (sb off : Nat) (ao : Option Addr) (len cap : Nat) (ws : List Wd) (w : World)
    (hn : len = ws.length) (hn47 : len ≤ 140737488355328) (hF : Wds w sb off ws) (hao : 0 < len → ao = some ⟨sb, off, none⟩) (hbw : 0 < len → sb < w.heap.size) :
    Calls Try.prog 7 #[.agg c.cells, .slice ao len cap] w fun e w' => e = .returned (.bool true) ∧ Below w.heap.size w w' := by
  rcases badOf_cases c with hk | ⟨k, hk⟩
  · exact tallies_ok c (cf_ok hk) sb off ao len cap ws w hn hn47 hF hao hbw (fun W => groups_blk c hin hk W)
  · exact tallies_bad c ao len cap w (fun W => groups_bad c hin k hk W)
theorem ballotTalliesProof : Rows.BallotTalliesSaid := ballotTallies_of fun c sb off ao len cap ws w hin hn hn47 hF hao hb => tallies_walk c hin sb off ao len cap ws w hn hn47 hF hao hb
end Go.Proofs.Ythfiafjhnidlkaa
