import Derived.Test.YtneginefcloceaaBPh
namespace Go.Proofs.Ytneginefcloceaa
open Go.RowKit

set_option maxRecDepth 10000 in
set_option maxHeartbeats 400000 in
theorem quorum_live {w : World} {a : Option Addr} {c : Cf} (h : PG w a c) (hk : c.Ok) :
    Calls Try.prog 44 #[.pointer a] w fun e w' => e = .returned (.int .i64 (c.f + 1)) ∧ w' = w := by
  have HM := hide (made_live h hk)
  obtain ⟨p, rfl, _, hc, -, -, -⟩ := h.cells
  have h1 := hk.f1
  have h3 := hk.f3
  clear h hk
  generalize c.f = f at *
  go_enter Try.func44, Try.ntmps44
  go_wp2_with fail
  refine HM.out.mono ?_
  rintro e w1 ⟨rfl, rfl⟩
  go_wp2
  go_ret
  exact ⟨rfl, rfl⟩
end Go.Proofs.Ytneginefcloceaa
