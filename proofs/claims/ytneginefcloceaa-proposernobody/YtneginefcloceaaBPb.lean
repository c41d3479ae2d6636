import Derived.Test.YtneginefcloceaaBPa
namespace Go.Proofs.Ytneginefcloceaa
open Go.RowKit

set_option maxRecDepth 10000 in
set_option maxHeartbeats 400000 in
theorem refusalB {w : World} (at_ : Int) (c : Int) : Calls Try.prog 58 #[.int .i64 at_, .iface 53 (.int .i64 c)] w fun e w' => ∃ g, e = .returned (.iface 127 (.pointer (some ⟨g, 0, none⟩))) ∧ Hid (Chain w'.heap.size w' [⟨ballotN, at_⟩] (.iface 127 (.pointer (some ⟨g, 0, none⟩))) c ∧ Below w.heap.size w w') := by
  have HB : Hid (∀ o, Below w.heap.size w (w.alloc o)) := fun o => (Below.refl _ _).alloc (Nat.le_refl _) _
  have HC : Hid (∀ t, (w.alloc (.cells #[.string ballotN, .int .i64 at_, .iface 53 (.int .i64 c)] t)).heap[w.heap.size]? = some (.cells #[.string ballotN, .int .i64 at_, .iface 53 (.int .i64 c)] t (0, 0))) := fun t => alloc_atK _ _
  go_enter Try.func58, Try.ntmps58
  go_wp2
  go_ret
  exact ⟨_, rfl, ⟨_, _, rfl, block_lt (HC.out _), block_cell (HC.out _) 0, block_cell (HC.out _) 1, block_cell (HC.out _) 2, rfl⟩, HB.out _⟩
end Go.Proofs.Ytneginefcloceaa
