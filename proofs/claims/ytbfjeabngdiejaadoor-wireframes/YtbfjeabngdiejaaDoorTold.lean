import Derived.Test.YtbfjeabngdiejaaDoorShows
namespace Go.Proofs.YtbfjeabngdiejaaDoor
open Go.RowKit Crc

set_option maxHeartbeats 400000 in
theorem told_nil (w : World) : Calls Tryd.prog 10 #[.nilIface] w fun e w' => e = .returned (.tuple #[.int .i64 0, .int .i64 0]) ∧ w' = w := by
  go_enter Tryd.func10, Tryd.ntmps10
  go_wp2
  go_ret2
  exact ⟨rfl, rfl⟩

theorem assert_ptr (g : Nat) (w : World) : (Instr.typeAssert (.iface 54 (.pointer (some ⟨g, 0, none⟩))) 25 54 true).run Tryd.prog w = .ok (.tuple #[.pointer (some ⟨g, 0, none⟩), .bool true]) w := by kernel_rfl
theorem assert_num (n : Int) (w : World) : (Instr.typeAssert (.iface 44 (.int .i64 n)) 25 44 true).run Tryd.prog w = .ok (.tuple #[.int .i64 n, .bool true]) w := by kernel_rfl

set_option maxHeartbeats 400000 in
theorem told_fault (v : Value) (at_ why : Int) (w : World) (h : IsFault w v at_ why) (hne : why ≠ 0) :
    Calls Tryd.prog 10 #[v] w fun e w' => e = .returned (.tuple #[.int .i64 why, .int .i64 at_]) ∧ ∃ q, w' = w.drewN q := by
  obtain ⟨g, rfl, k0, k1, k2⟩ := h
  have hw : (why == 0) = false := by simp [hne]
  clear hne
  have ta1 := assert_ptr g
  have ta2 := assert_num why
  go_enter Tryd.func10, Tryd.ntmps10
  go_wp2
  go_quiet (fail)
  go_wp2
  go_ret2
  exact ⟨rfl, _, rfl⟩
end Go.Proofs.YtbfjeabngdiejaaDoor
