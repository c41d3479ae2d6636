import Derived.Test.YtneginefcloceaaBPl
namespace Go.Proofs.Ytneginefcloceaa
open Go.RowKit

theorem bal_neq (a c : Int) (b d : Int) (w : World) : (binOp BinOp.neq 27 (.agg #[.int .u64 a, .int .i64 b]) (.agg #[.int .u64 c, .int .i64 d])).run Try.prog w = .ok (.bool (!(decide (a = c) && decide (b = d)))) w := by
  by_cases h1 : a = c
  · subst h1
    by_cases h2 : b = d
    · subst h2; go_simp
    · go_simp
  · go_simp
theorem Cf.valid_iff (c : Cf) (n : Nat) (m : Int) : c.valid n m = true ↔ ((n : Int) = 0 ∧ m = 0) ∨ (1 ≤ (n : Int) ∧ (n : Int) ≤ (c.mn : Int) ∧ 0 ≤ m ∧ m < 2 * c.f + 1) := by
  unfold Cf.valid
  by_cases h0 : n = 0
  · rw [if_pos h0, decide_eq_true_eq]; omega
  · rw [if_neg h0, Bool.and_eq_true]
    unfold Cf.node
    rw [decide_eq_true_eq, decide_eq_true_eq]
    omega
theorem wrap_u (x : Int) (h1 : 0 ≤ x) (h2 : x < 18446744073709551616) : IntKind.u64.wrap x = x := by
  have e : IntKind.u64.wrap x = x % 18446744073709551616 := rfl
  rw [e]; omega
theorem Cf.Ok.f_cases {c : Cf} (h : c.Ok) : c.f = 1 ∨ c.f = 2 ∨ c.f = 3 := by
  have := h.f1; have := h.f3; omega
theorem rank_nonneg {c : Cf} (hok : c.Ok) {n : Nat} {m : Int} (hv : c.valid n m = true) : 0 ≤ c.rank n m ∧ c.rank n m ≤ (c.mn : Int) * (2 * c.f + 1) ∧ (c.mn : Int) * (2 * c.f + 1) ≤ 7696581394432 := by
  have h2 := hok.mn2
  unfold Cf.rank
  rcases (c.valid_iff n m).1 hv with h | h <;> rcases hok.f_cases with hf | hf | hf <;> rw [hf] <;> (try rw [hf] at h) <;> split <;> omega
theorem rank_zero {c : Cf} (hok : c.Ok) {n : Nat} {m : Int} (hv : c.valid n m = true) : c.rank n m = 0 → (n : Int) = 0 ∧ m = 0 := by
  unfold Cf.rank
  rcases (c.valid_iff n m).1 hv with h | h <;> rcases hok.f_cases with hf | hf | hf <;> rw [hf] <;> (try rw [hf] at h) <;> split <;> omega
theorem rank_back {c : Cf} (hok : c.Ok) {n : Nat} {m : Int} (hv : c.valid n m = true) (h0 : c.rank n m ≠ 0) : (c.rank n m - 1) / (2 * c.f + 1) + 1 = (n : Int) ∧ (c.rank n m - 1) % (2 * c.f + 1) = m := by
  unfold Cf.rank at *
  rcases (c.valid_iff n m).1 hv with h | h
  · rw [if_pos h.1] at h0; exact absurd rfl h0
  · rw [if_neg (by omega)]
    rcases hok.f_cases with hf | hf | hf <;> rw [hf] <;> rw [hf] at h <;> omega
theorem rank_lt {c : Cf} (hok : c.Ok) {n : Nat} {m : Int} (hv : c.valid n m = true) {n' : Nat} {m' : Int} (hv' : c.valid n' m' = true) : (c.rank n m < c.rank n' m' ↔ cmpB n m n' m' < 0) ∧ (c.rank n m = c.rank n' m' ↔ (n : Int) = n' ∧ m = m') := by
  have h1 := (c.valid_iff n m).1 hv
  have h2 := (c.valid_iff n' m').1 hv'
  unfold Cf.rank cmpB
  rcases hok.f_cases with hf | hf | hf <;> rw [hf] <;> rw [hf] at h1 h2 <;> (repeat' split) <;> constructor <;> constructor <;> intro h <;> omega
end Go.Proofs.Ytneginefcloceaa
