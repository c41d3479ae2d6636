import Derived.Test.YtgdliomkdkjlaaaPBase
namespace Go.Proofs.Ytgdliomkdkjlaaa
open Go.RowKit Crc

set_option maxRecDepth 10000 in
set_option maxHeartbeats 400000 in
theorem told_nil (w : World) : Calls Try.prog 17 #[.nilIface] w fun e w' => e = .returned (.tuple #[.int .i64 0, .int .i64 0]) ∧ w' = w := by
  go_enter Try.func17, Try.ntmps17
  go_wp2
  go_ret2
  exact ⟨rfl, rfl⟩
theorem assert_ptr (g : Nat) (w : World) : (Instr.typeAssert (.iface 92 (.pointer (some ⟨g, 0, none⟩))) 58 92 true).run Try.prog w = .ok (.tuple #[.pointer (some ⟨g, 0, none⟩), .bool true]) w := by kernel_rfl
theorem assert_num (n : Int) (w : World) : (Instr.typeAssert (.iface 41 (.int .i64 n)) 58 41 true).run Try.prog w = .ok (.tuple #[.int .i64 n, .bool true]) w := by kernel_rfl
set_option maxRecDepth 10000 in
set_option maxHeartbeats 400000 in
theorem told_fault (v : Value) (at_ why : Int) (w : World) (h : IsFault w v at_ why) (hne : why ≠ 0) :
    Calls Try.prog 17 #[v] w fun e w' => e = .returned (.tuple #[.int .i64 why, .int .i64 at_]) ∧ ∃ q, w' = w.drewN q := by
  obtain ⟨g, rfl, k0, k1, k2⟩ := h
  have hw : (why == 0) = false := by simp [hne]
  clear hne
  have ta1 := assert_ptr g
  have ta2 := assert_num why
  go_enter Try.func17, Try.ntmps17
  go_wp2
  go_quiet (fail)
  go_wp2
  go_ret2
  exact ⟨rfl, _, rfl⟩
set_option maxRecDepth 10000 in
set_option maxHeartbeats 400000 in
theorem refusal_any (at_ why : Int) (w : World) :
    Calls Try.prog 60 #[.int .i64 at_, .int .i64 why] w fun e w' => ∃ v, e = .returned v ∧ v = .iface 92 (.pointer (some ⟨w.heap.size, 0, none⟩)) ∧ IsFault w' v at_ why ∧ Below w.heap.size w w' := by
  go_enter Try.func60, Try.ntmps60
  go_wp2
  go_ret
  refine ⟨_, rfl, rfl, ⟨w.heap.size, rfl, ?_, ?_, ?_⟩, (Below.refl _ _).alloc (Nat.le_refl _) _⟩ <;> simp
end Go.Proofs.Ytgdliomkdkjlaaa
