import Derived.Test.YthfiafjhnidlkaaBSd
namespace Go.Proofs.Ythfiafjhnidlkaa
open Go.RowKit

theorem memU_flat {s k : Nat} : ∀ {m : Nat}, k ≤ m → (∀ j, k ≤ j → j < m → s.testBit j = false) → memU s m = memU s k
  | 0, h, _ => by rw [show k = 0 by omega]
  | m + 1, h, hn => by
    by_cases e : k = m + 1
    · rw [e]
    · rw [memU_succ, hn m (by omega) (by omega), if_neg (by simp), List.append_nil]
      exact memU_flat (by omega) (fun j h1 h2 => hn j h1 (by omega))
/-- Behind the members below k the next one is the least from k on. -/
theorem next_mem {s k m : Nat} {pre : List Int} {x : Int} (hkm : k ≤ m) (hm : m ≤ 32) (hno : ∀ j, k ≤ j → j < m → s.testBit j = false) (hat : m = 32 ∨ s.testBit m = true)
    (hpre : pre <+: memU s 32 → pre = memU s k) (hx : pre ++ [x] <+: memU s 32) : m < 32 ∧ x = (m : Int) ∧ pre ++ [x] = memU s (m + 1) := by
  have h1 : pre = memU s m := by rw [memU_flat hkm hno]; exact hpre ((List.prefix_append _ _).trans hx)
  have h32 : m < 32 := by
    rcases Nat.lt_or_ge m 32 with h | h
    · exact h
    · have e : m = 32 := by omega
      have := hx.length_le
      rw [h1, e, List.length_append, List.length_singleton] at this
      omega
  have ht : s.testBit m = true := by
    rcases hat with h | h
    · omega
    · exact h
  have h2 : memU s (m + 1) <+: memU s 32 := memU_pre s (by omega)
  rw [memU_succ, if_pos ht] at h2
  have h3 : pre ++ [x] = memU s m ++ [(m : Int)] := by
    refine (List.prefix_of_prefix_length_le hx h2 ?_).eq_of_length ?_
    · rw [h1]; simp
    · rw [h1]; simp
  refine ⟨h32, ?_, by rw [memU_succ, if_pos ht, h3]⟩
  rw [h1] at h3
  have := List.append_cancel_left h3
  simpa using this
/-- What is told: the count, and two at most where it is left at the second. -/
theorem told_want {s : Nat} {pre : List Int} (hp : pre <+: memU s 32) (h2 : pre.length = 2) : (if ((countB s : Nat) : Int) > 2 then (2 : Int) else ((countB s : Nat) : Int)) = 2 := by
  have := hp.length_le
  unfold countB
  split <;> omega
end Go.Proofs.Ythfiafjhnidlkaa
