import Derived.Test.YtoejdocnpcbpiaaPBase
namespace Go.Proofs.Ytoejdocnpcbpiaa
open Go.RowKit

/-- a and b, at most most. -/
def addB (a b most : Nat) : Nat := if most ≤ a + b then most else a + b
set_option maxRecDepth 10000 in
set_option maxHeartbeats 400000 in
theorem refAdd (a b most : Nat) (w : World) (h1 : a < 18446744073709551616) (h2 : b < 18446744073709551616) (h3 : most < 18446744073709551616) :
    Calls Try.prog 8 #[.int .u64 (a : Nat), .int .u64 (b : Nat), .int .u64 (most : Nat)] w fun e w' => e = .returned (.int .u64 ((addB a b most : Nat) : Int)) ∧ w' = w := by
  by_cases g1 : (a : Int) ≥ (most : Int)
  · have hv : Hid (addB a b most = most) := by show addB a b most = most; unfold addB; rw [if_pos (by omega)]
    go_enter Try.func8, Try.ntmps8
    go_wp2
    go_ret
    exact ⟨by rw [hv.out]; rfl, rfl⟩
  · by_cases g2 : (b : Int) ≥ (most : Int) - (a : Int)
    · have hv : Hid (addB a b most = most) := by show addB a b most = most; unfold addB; rw [if_pos (by omega)]
      go_enter Try.func8, Try.ntmps8
      go_wp2
      go_ret
      exact ⟨by rw [hv.out]; rfl, rfl⟩
    · have hv : Hid (addB a b most = a + b) := by show addB a b most = a + b; unfold addB; rw [if_neg (by omega)]
      go_enter Try.func8, Try.ntmps8
      go_wp2
      go_ret
      exact ⟨by rw [hv.out]; rfl, rfl⟩
end Go.Proofs.Ytoejdocnpcbpiaa
