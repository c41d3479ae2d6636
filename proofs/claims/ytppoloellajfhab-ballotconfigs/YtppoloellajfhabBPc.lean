import Derived.Test.YtppoloellajfhabBPa
namespace Go.Proofs.Ytppoloellajfhab
open Go.RowKit

set_option maxRecDepth 10000 in
set_option maxHeartbeats 400000 in
theorem high_dead {w : World} {a : Option Addr} (low : Int) (h : Dead w a) :
    Calls Try.prog 23 #[.pointer a, .int .u64 low] w fun e w' => e = .returned (.int .u64 0) ∧ w' = w := by
  have HM := hide (made_dead h)
  clear h
  go_enter Try.func23, Try.ntmps23
  go_wp2_with fail
  refine HM.out.mono ?_
  rintro e w1 ⟨rfl, rfl⟩
  go_wp2
  go_ret
  exact ⟨rfl, rfl⟩
set_option maxRecDepth 10000 in
set_option maxHeartbeats 400000 in
theorem inside_dead {w : World} {a : Option Addr} (low slot : Nat) (h : Dead w a) :
    Calls Try.prog 24 #[.pointer a, .int .u64 (low : Nat), .int .u64 (slot : Nat)] w fun e w' => e = .returned (.bool false) ∧ w' = w := by
  have HM := hide (high_dead (low : Int) h)
  clear h
  by_cases g : (slot : Int) ≥ (low : Int)
  · go_enter Try.func24, Try.ntmps24
    go_wp2_with fail
    refine HM.out.mono ?_
    rintro e w1 ⟨rfl, rfl⟩
    go_wp2
    go_ret
    exact ⟨by simp, rfl⟩
  · go_enter Try.func24, Try.ntmps24
    go_wp2
    go_ret
    exact ⟨rfl, rfl⟩
end Go.Proofs.Ytppoloellajfhab
