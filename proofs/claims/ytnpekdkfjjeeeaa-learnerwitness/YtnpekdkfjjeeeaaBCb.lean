import Derived.Test.YtnpekdkfjjeeeaaBPh
import Derived.Test.YtnpekdkfjjeeeaaBVi
namespace Go.Proofs.Ytnpekdkfjjeeeaa
open Go.RowKit

/-- All replicas. -/
def allB (f : Int) : Int := if f = 1 then 7 else if f = 2 then 31 else 127
set_option maxRecDepth 10000 in
set_option maxHeartbeats 400000 in
theorem all_dead {w : World} {a : Option Addr} (h : Dead w a) :
    Calls Try.prog 50 #[.pointer a] w fun e w' => e = .returned (.int .u32 0) ∧ w' = w := by
  have HM := hide (nodes_dead h)
  clear h
  go_enter Try.func50, Try.ntmps50
  go_wp2_with fail
  refine HM.out.mono ?_
  rintro e w1 ⟨rfl, rfl⟩
  go_wp2
  go_ret
  exact ⟨rfl, rfl⟩
set_option maxRecDepth 10000 in
set_option maxHeartbeats 400000 in
theorem all_live {w : World} {a : Option Addr} {c : Cf} (h : PG w a c) (hk : c.Ok) :
    Calls Try.prog 50 #[.pointer a] w fun e w' => e = .returned (.int .u32 (allB c.f)) ∧ w' = w := by
  have HM := hide (nodes_live h hk)
  have hf := hk.f_cases
  clear h hk
  generalize c.f = f at *
  rcases hf with rfl | rfl | rfl
  all_goals
    go_enter Try.func50, Try.ntmps50
    go_wp2_with fail
    refine HM.out.mono ?_
    rintro e w1 ⟨rfl, rfl⟩
    go_wp2
    go_ret
    exact ⟨rfl, rfl⟩
end Go.Proofs.Ytnpekdkfjjeeeaa
