import Derived.Test.YtgeacmhofgnkfaaLNobC
namespace Go.Proofs.Ytgeacmhofgnkfaa
open Go.RowKit

theorem led_9 (a b : Nat) : (led a b)[9]? = some (.int .u64 0) := by kernel_rfl
theorem led_10 (a b : Nat) : (led a b)[10]? = some (.int .i64 0) := by kernel_rfl
theorem led_11 (a b : Nat) : (led a b)[11]? = some (.int .u64 0) := by kernel_rfl
theorem led_12 (a b : Nat) : (led a b)[12]? = some (.int .u64 0) := by kernel_rfl
theorem led_13 (a b : Nat) : (led a b)[13]? = some (.int .u64 0) := by kernel_rfl
end Go.Proofs.Ytgeacmhofgnkfaa
