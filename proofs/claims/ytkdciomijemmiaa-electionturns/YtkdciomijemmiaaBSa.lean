import Derived.Test.YtkdciomijemmiaaPBase
namespace Go.Proofs.Ytkdciomijemmiaa
open Go.RowKit

/-- Is n in the set? -/
def hasB (s : Nat) (n : Int) : Bool := decide (0 ≤ n ∧ n < 32) && s.testBit n.toNat
/-- n's own set. -/
def aloneB (n : Int) : Nat := if 0 ≤ n ∧ n < 32 then 2 ^ n.toNat else 0
theorem aloneB_lt (n : Int) : aloneB n < 4294967296 := by
  unfold aloneB
  split
  · have : 2 ^ n.toNat ≤ 2 ^ 31 := Nat.pow_le_pow_right (by omega) (by omega)
    omega
  · omega
theorem and_alone (s : Nat) (n : Int) : (s &&& aloneB n = 0) ↔ hasB s n = false := by
  unfold aloneB hasB
  by_cases h : 0 ≤ n ∧ n < 32
  · rw [if_pos h, decide_eq_true h, Bool.true_and]
    constructor
    · intro e
      have h1 : (s &&& 2 ^ n.toNat).testBit n.toNat = false := by rw [e]; simp
      rw [Nat.testBit_and, Nat.testBit_two_pow_self, Bool.and_true] at h1
      exact h1
    · intro e
      apply Nat.eq_of_testBit_eq
      intro i
      rw [Nat.testBit_and, Nat.zero_testBit]
      by_cases hi : n.toNat = i
      · subst hi; rw [e]; rfl
      · rw [Nat.testBit_two_pow_of_ne hi, Bool.and_false]
  · rw [if_neg h, decide_eq_false h, Bool.false_and]
    simp
set_option maxRecDepth 10000 in
set_option maxHeartbeats 800000 in
theorem alone_small (k : Nat) (h : k < 32) (w : World) :
    Calls Try.prog 52 #[.int .i64 (k : Nat)] w fun e w' => e = .returned (.int .u32 ((2 ^ k : Nat) : Int)) ∧ w' = w := by
  match k, h with
  | 0, _ => go_enter Try.func52, Try.ntmps52; go_wp2; go_ret; exact ⟨rfl, rfl⟩
  | 1, _ => go_enter Try.func52, Try.ntmps52; go_wp2; go_ret; exact ⟨rfl, rfl⟩
  | 2, _ => go_enter Try.func52, Try.ntmps52; go_wp2; go_ret; exact ⟨rfl, rfl⟩
  | 3, _ => go_enter Try.func52, Try.ntmps52; go_wp2; go_ret; exact ⟨rfl, rfl⟩
  | 4, _ => go_enter Try.func52, Try.ntmps52; go_wp2; go_ret; exact ⟨rfl, rfl⟩
  | 5, _ => go_enter Try.func52, Try.ntmps52; go_wp2; go_ret; exact ⟨rfl, rfl⟩
  | 6, _ => go_enter Try.func52, Try.ntmps52; go_wp2; go_ret; exact ⟨rfl, rfl⟩
  | 7, _ => go_enter Try.func52, Try.ntmps52; go_wp2; go_ret; exact ⟨rfl, rfl⟩
  | 8, _ => go_enter Try.func52, Try.ntmps52; go_wp2; go_ret; exact ⟨rfl, rfl⟩
  | 9, _ => go_enter Try.func52, Try.ntmps52; go_wp2; go_ret; exact ⟨rfl, rfl⟩
  | 10, _ => go_enter Try.func52, Try.ntmps52; go_wp2; go_ret; exact ⟨rfl, rfl⟩
  | 11, _ => go_enter Try.func52, Try.ntmps52; go_wp2; go_ret; exact ⟨rfl, rfl⟩
  | 12, _ => go_enter Try.func52, Try.ntmps52; go_wp2; go_ret; exact ⟨rfl, rfl⟩
  | 13, _ => go_enter Try.func52, Try.ntmps52; go_wp2; go_ret; exact ⟨rfl, rfl⟩
  | 14, _ => go_enter Try.func52, Try.ntmps52; go_wp2; go_ret; exact ⟨rfl, rfl⟩
  | 15, _ => go_enter Try.func52, Try.ntmps52; go_wp2; go_ret; exact ⟨rfl, rfl⟩
  | 16, _ => go_enter Try.func52, Try.ntmps52; go_wp2; go_ret; exact ⟨rfl, rfl⟩
  | 17, _ => go_enter Try.func52, Try.ntmps52; go_wp2; go_ret; exact ⟨rfl, rfl⟩
  | 18, _ => go_enter Try.func52, Try.ntmps52; go_wp2; go_ret; exact ⟨rfl, rfl⟩
  | 19, _ => go_enter Try.func52, Try.ntmps52; go_wp2; go_ret; exact ⟨rfl, rfl⟩
  | 20, _ => go_enter Try.func52, Try.ntmps52; go_wp2; go_ret; exact ⟨rfl, rfl⟩
  | 21, _ => go_enter Try.func52, Try.ntmps52; go_wp2; go_ret; exact ⟨rfl, rfl⟩
  | 22, _ => go_enter Try.func52, Try.ntmps52; go_wp2; go_ret; exact ⟨rfl, rfl⟩
  | 23, _ => go_enter Try.func52, Try.ntmps52; go_wp2; go_ret; exact ⟨rfl, rfl⟩
  | 24, _ => go_enter Try.func52, Try.ntmps52; go_wp2; go_ret; exact ⟨rfl, rfl⟩
  | 25, _ => go_enter Try.func52, Try.ntmps52; go_wp2; go_ret; exact ⟨rfl, rfl⟩
  | 26, _ => go_enter Try.func52, Try.ntmps52; go_wp2; go_ret; exact ⟨rfl, rfl⟩
  | 27, _ => go_enter Try.func52, Try.ntmps52; go_wp2; go_ret; exact ⟨rfl, rfl⟩
  | 28, _ => go_enter Try.func52, Try.ntmps52; go_wp2; go_ret; exact ⟨rfl, rfl⟩
  | 29, _ => go_enter Try.func52, Try.ntmps52; go_wp2; go_ret; exact ⟨rfl, rfl⟩
  | 30, _ => go_enter Try.func52, Try.ntmps52; go_wp2; go_ret; exact ⟨rfl, rfl⟩
  | 31, _ => go_enter Try.func52, Try.ntmps52; go_wp2; go_ret; exact ⟨rfl, rfl⟩
  | n + 32, h => exact absurd h (by omega)
set_option maxRecDepth 10000 in
set_option maxHeartbeats 800000 in
theorem alone_any (n : Int) (w : World) :
    Calls Try.prog 52 #[.int .i64 n] w fun e w' => e = .returned (.int .u32 ((aloneB n : Nat) : Int)) ∧ w' = w := by
  by_cases h : 0 ≤ n ∧ n < 32
  · obtain ⟨k, hk⟩ := Int.eq_ofNat_of_zero_le h.1
    subst hk
    have e : aloneB (k : Int) = 2 ^ k := by unfold aloneB; rw [if_pos h]; simp
    rw [e]
    exact alone_small k (by omega) w
  · have hv : Hid (aloneB n = 0) := by show _ = _; unfold aloneB; rw [if_neg h]
    generalize aloneB n = v at *
    by_cases h0 : n < 0
    · go_enter Try.func52, Try.ntmps52
      go_wp2
      go_ret
      exact ⟨by rw [hv.out]; rfl, rfl⟩
    · have h1 : n ≥ 32 := by omega
      go_enter Try.func52, Try.ntmps52
      go_wp2
      go_ret
      exact ⟨by rw [hv.out]; rfl, rfl⟩
set_option maxRecDepth 10000 in
set_option maxHeartbeats 400000 in
theorem has_any (s : Nat) (hs : s < 4294967296) (n : Int) (w : World) :
    Calls Try.prog 56 #[.int .u32 (s : Nat), .int .i64 n] w fun e w' => e = .returned (.bool (hasB s n)) ∧ w' = w := by
  have HA := hide (alone_any n w)
  have hb : bits .and .u32 (s : Int) (aloneB n : Int) = ((s &&& aloneB n : Nat) : Int) := u32_and_nat s (aloneB n) hs (aloneB_lt n)
  have HV : Hid (hasB s n = !decide (((s &&& aloneB n : Nat) : Int) = 0)) := by
    show _ = _
    have := and_alone s n
    cases hh : hasB s n with
    | false => rw [hh] at this; rw [decide_eq_true (by have := this.2 rfl; omega)]; rfl
    | true =>
      rw [decide_eq_false (fun e => by have h0 := this.1 (by omega); rw [hh] at h0; cases h0)]
      rfl
  generalize hasB s n = v at *
  generalize ((s &&& aloneB n : Nat) : Int) = x at *
  generalize (aloneB n : Int) = y at *
  generalize (s : Int) = s at *
  go_enter Try.func56, Try.ntmps56
  go_wp2_with fail
  refine HA.out.mono ?_
  rintro e w1 ⟨rfl, rfl⟩
  go_wp2
  go_ret
  exact ⟨by rw [HV.out]; simp [bne, BEq.beq], rfl⟩
/-- The set, and n in it. -/
def withB (s : Nat) (n : Int) : Nat := s ||| aloneB n
set_option maxRecDepth 10000 in
set_option maxHeartbeats 400000 in
theorem with_any (s : Nat) (hs : s < 4294967296) (n : Int) (w : World) :
    Calls Try.prog 33 #[.int .u32 (s : Nat), .int .i64 n] w fun e w' => e = .returned (.int .u32 ((withB s n : Nat) : Int)) ∧ w' = w := by
  have HA := hide (alone_any n w)
  have hb : bits .or .u32 (s : Int) (aloneB n : Int) = ((s ||| aloneB n : Nat) : Int) := u32_or_nat s (aloneB n) hs (aloneB_lt n)
  unfold withB
  generalize ((s ||| aloneB n : Nat) : Int) = x at *
  generalize (aloneB n : Int) = y at *
  generalize (s : Int) = s at *
  go_enter Try.func33, Try.ntmps33
  go_wp2_with fail
  refine HA.out.mono ?_
  rintro e w1 ⟨rfl, rfl⟩
  go_wp2
  go_ret
  exact ⟨rfl, rfl⟩
end Go.Proofs.Ytkdciomijemmiaa
