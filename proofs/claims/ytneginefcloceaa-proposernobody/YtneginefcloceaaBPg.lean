import Derived.Test.YtneginefcloceaaBPa
import Derived.Test.YtneginefcloceaaBThr
namespace Go.Proofs.Ytneginefcloceaa
open Go.RowKit

set_option maxRecDepth 10000 in
set_option maxHeartbeats 400000 in
theorem compare_any (n1 m1 n2 m2 : Int) (w : World) :
    Calls Try.prog 42 #[.agg #[.int .u64 n1, .int .i64 m1], .agg #[.int .u64 n2, .int .i64 m2]] w fun e w' => e = .returned (.int .i64 (cmpB n1 m1 n2 m2)) ∧ Below w.heap.size w w' := by
  have hB : Hid (∀ o1 o2, Below w.heap.size w ((w.alloc o1).alloc o2)) := fun o1 o2 => ((Below.refl _ _).alloc (Nat.le_refl _) _).alloc (by simp) _
  have hE := bal_eq n1 n2 m1 m2
  by_cases h1 : n1 = n2
  · subst h1
    by_cases h2 : m1 = m2
    · subst h2
      have hv : Hid (cmpB n1 m1 n1 m1 = 0) := by show cmpB n1 m1 n1 m1 = 0; simp [cmpB]
      simp only [decide_true, Bool.and_true] at hE
      go_enter Try.func42, Try.ntmps42
      go_wp2
      go_ret
      exact ⟨by rw [hv.out]; rfl, hB.out _ _⟩
    · simp only [decide_true, decide_eq_false h2, Bool.and_false] at hE
      by_cases h3 : m1 < m2
      · have hv : Hid (cmpB n1 m1 n1 m2 = -1) := by show cmpB n1 m1 n1 m2 = -1; simp [cmpB, h2, h3]
        go_enter Try.func42, Try.ntmps42
        go_wp2
        go_ret
        exact ⟨by rw [hv.out]; rfl, hB.out _ _⟩
      · have hv : Hid (cmpB n1 m1 n1 m2 = 1) := by show cmpB n1 m1 n1 m2 = 1; simp [cmpB, h2, h3]
        go_enter Try.func42, Try.ntmps42
        go_wp2
        go_ret
        exact ⟨by rw [hv.out]; rfl, hB.out _ _⟩
  · simp only [decide_eq_false h1, Bool.false_and] at hE
    by_cases h3 : n1 < n2
    · have hv : Hid (cmpB n1 m1 n2 m2 = -1) := by show cmpB n1 m1 n2 m2 = -1; simp [cmpB, h1, h3]
      go_enter Try.func42, Try.ntmps42
      go_wp2
      go_ret
      exact ⟨by rw [hv.out]; rfl, hB.out _ _⟩
    · have hv : Hid (cmpB n1 m1 n2 m2 = 1) := by show cmpB n1 m1 n2 m2 = 1; simp [cmpB, h1, h3]
      go_enter Try.func42, Try.ntmps42
      go_wp2
      go_ret
      exact ⟨by rw [hv.out]; rfl, hB.out _ _⟩
set_option maxRecDepth 10000 in
set_option maxHeartbeats 400000 in
theorem less_any (n1 m1 n2 m2 : Int) (w : World) :
    Calls Try.prog 16 #[.agg #[.int .u64 n1, .int .i64 m1], .agg #[.int .u64 n2, .int .i64 m2]] w fun e w' => e = .returned (.bool (decide (cmpB n1 m1 n2 m2 < 0))) ∧ Below w.heap.size w w' := by
  have H := fun w => hide (compare_any n1 m1 n2 m2 w)
  have hB : Hid (∀ o1 o2 w1, Below ((w.alloc o1).alloc o2).heap.size ((w.alloc o1).alloc o2) w1 → Below w.heap.size w w1) := fun o1 o2 w1 b => (((Below.refl _ _).alloc (Nat.le_refl _) _).alloc (by simp) _).trans (b.mono (by simp; omega))
  generalize cmpB n1 m1 n2 m2 = x at *
  go_enter Try.func16, Try.ntmps16
  go_wp2_with fail
  refine (H _).out.mono ?_
  rintro e w1 ⟨rfl, B1⟩
  go_wp2_with fail
  go_ret
  exact ⟨rfl, hB.out _ _ _ B1⟩
end Go.Proofs.Ytneginefcloceaa
