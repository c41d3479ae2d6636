import Derived.Test.YtneginefcloceaaPBase
namespace Go.Proofs.Ytneginefcloceaa
open Go.RowKit

/-- Is n in the set? -/
def hasB (s : Nat) (n : Int) : Bool := decide (0 ≤ n ∧ n < 32) && s.testBit n.toNat
/-- n's own set. -/
def aloneB (n : Int) : Nat := if 0 ≤ n ∧ n < 32 then 2 ^ n.toNat else 0
theorem aloneB_lt (n : Int) : aloneB n < 4294967296 := by
  unfold aloneB
  split
  · have : 2 ^ n.toNat ≤ 2 ^ 31 := Nat.pow_le_pow_right (by omega) (by omega)
    omega
  · omega
theorem and_alone (s : Nat) (n : Int) : (s &&& aloneB n = 0) ↔ hasB s n = false := by
  unfold aloneB hasB
  by_cases h : 0 ≤ n ∧ n < 32
  · rw [if_pos h, decide_eq_true h, Bool.true_and]
    constructor
    · intro e
      have h1 : (s &&& 2 ^ n.toNat).testBit n.toNat = false := by rw [e]; simp
      rw [Nat.testBit_and, Nat.testBit_two_pow_self, Bool.and_true] at h1
      exact h1
    · intro e
      apply Nat.eq_of_testBit_eq
      intro i
      rw [Nat.testBit_and, Nat.zero_testBit]
      by_cases hi : n.toNat = i
      · subst hi; rw [e]; rfl
      · rw [Nat.testBit_two_pow_of_ne hi, Bool.and_false]
  · rw [if_neg h, decide_eq_false h, Bool.false_and]
    simp
/-- The set, and n in it. -/
def withB (s : Nat) (n : Int) : Nat := s ||| aloneB n
end Go.Proofs.Ytneginefcloceaa
