import Derived.Test.YtneginefcloceaaBVw
namespace Go.Proofs.Ytneginefcloceaa
open Go.RowKit

/-- Two ballots. -/
theorem bal_eq (a c : Int) (b d : Int) (w : World) : (binOp BinOp.eql 27 (.agg #[.int .u64 a, .int .i64 b]) (.agg #[.int .u64 c, .int .i64 d])).run Try.prog w = .ok (.bool (decide (a = c) && decide (b = d))) w := by
  by_cases h1 : a = c
  · subst h1
    by_cases h2 : b = d
    · subst h2; go_simp
    · go_simp
  · go_simp
theorem three (w : World) (o1 o2 o3 : Obj) : (((w.alloc o1).alloc o2).alloc o3).heap[w.heap.size]? = some o1 ∧ (((w.alloc o1).alloc o2).alloc o3).heap[w.heap.size + 1]? = some o2 ∧ (((w.alloc o1).alloc o2).alloc o3).heap[w.heap.size + 1 + 1]? = some o3 := by
  have e1 : (w.alloc o1).heap.size = w.heap.size + 1 := by simp
  have e2 : ((w.alloc o1).alloc o2).heap.size = w.heap.size + 1 + 1 := by simp
  refine ⟨(Below.heap_alloc _ _ _ (by rw [e2]; omega)).trans ((Below.heap_alloc _ _ _ (by rw [e1]; omega)).trans (alloc_atK _ _)), ?_, ?_⟩
  · have h := alloc_atK (w.alloc o1) o2
    rw [e1] at h
    exact (Below.heap_alloc _ _ _ (by rw [e2]; omega)).trans h
  · have h := alloc_atK ((w.alloc o1).alloc o2) o3
    rw [e2] at h
    exact h
theorem cmpB_swap (a b c d : Int) : cmpB c d a b = - cmpB a b c d := by
  unfold cmpB
  repeat' split
  all_goals omega
theorem cmpB_zero (a b c d : Int) : cmpB a b c d = 0 ↔ a = c ∧ b = d := by
  unfold cmpB
  repeat' split
  all_goals (constructor <;> intro h <;> omega)
theorem cmpB_trans (a b c d e f : Int) (h1 : cmpB a b c d < 0) (h2 : cmpB c d e f < 0) : cmpB a b e f < 0 := by
  unfold cmpB at *
  repeat' split at h1
  all_goals repeat' split at h2
  all_goals repeat' split
  all_goals omega
theorem cmpB_cases (a b c d : Int) : cmpB a b c d = -1 ∨ cmpB a b c d = 0 ∨ cmpB a b c d = 1 := by
  unfold cmpB
  repeat' split
  all_goals omega
end Go.Proofs.Ytneginefcloceaa
