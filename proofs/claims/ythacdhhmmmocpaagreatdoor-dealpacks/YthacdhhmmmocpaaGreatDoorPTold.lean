import Derived.Test.YthacdhhmmmocpaaGreatDoorM1
namespace Go.Proofs.YthacdhhmmmocpaaGreatDoor
open Go.RowKit Crc

theorem assert_ptr (g : Nat) (w : World) : (Instr.typeAssert (.iface 87 (.pointer (some ⟨g, 0, none⟩))) 28 87 true).run Tryz.prog w = .ok (.tuple #[.pointer (some ⟨g, 0, none⟩), .bool true]) w := by kernel_rfl
theorem assert_num (n : Int) (w : World) : (Instr.typeAssert (.iface 47 (.int .i64 n)) 28 47 true).run Tryz.prog w = .ok (.tuple #[.int .i64 n, .bool true]) w := by kernel_rfl
set_option maxRecDepth 10000 in
set_option maxHeartbeats 400000 in
theorem refusal_any (at_ why : Int) (w : World) :
    Calls Tryz.prog 52 #[.int .i64 at_, .int .i64 why] w fun e w' => ∃ v, e = .returned v ∧ v = .iface 87 (.pointer (some ⟨w.heap.size, 0, none⟩)) ∧ IsFault w' v at_ why ∧ Below w.heap.size w w' := by
  go_enter Tryz.func52, Tryz.ntmps52
  go_wp2
  go_ret
  refine ⟨_, rfl, rfl, ⟨w.heap.size, rfl, ?_, ?_, ?_⟩, (Below.refl _ _).alloc (Nat.le_refl _) _⟩ <;> simp
end Go.Proofs.YthacdhhmmmocpaaGreatDoor
