import Derived.Test.YtneginefcloceaaBSb
import Derived.Test.YtneginefcloceaaBCb
import Derived.Test.YtneginefcloceaaBPq
namespace Go.Proofs.Ytneginefcloceaa
open Go.RowKit

/-- All replicas, as a number. -/
def allN (f : Int) : Nat := if f = 1 then 7 else if f = 2 then 31 else 127
theorem allB_nat (f : Int) : allB f = ((allN f : Nat) : Int) := by unfold allB allN; split <;> (try split) <;> rfl
theorem allN_lt (f : Int) : allN f < 4294967296 := by unfold allN; split <;> (try split) <;> omega
theorem and_lt {a : Nat} (b : Nat) (h : a < 4294967296) : a &&& b < 4294967296 := Nat.lt_of_le_of_lt Nat.and_le_left h
/-- Is the set a majority? -/
def Cf.maj (c : Cf) (s : Nat) : Bool := decide (((countB (s &&& allN c.f) : Nat) : Int) ≥ c.f + 1)
theorem memU_mem {s k : Nat} {x : Int} : x ∈ memU s k ↔ ∃ i : Nat, i < k ∧ x = (i : Int) ∧ s.testBit i = true := by
  unfold memU
  simp only [List.mem_map, List.mem_filter, List.mem_range]
  constructor
  · rintro ⟨i, ⟨h1, h2⟩, rfl⟩; exact ⟨i, h1, rfl, h2⟩
  · rintro ⟨i, h1, rfl, h2⟩; exact ⟨i, ⟨h1, h2⟩, rfl⟩
theorem memU_apart {a b : Nat} (h : ∀ i : Nat, ¬ (a.testBit i = true ∧ b.testBit i = true)) : ∀ k, (memU a k).length + (memU b k).length ≤ k
  | 0 => by simp [memU]
  | k + 1 => by
    have ih := memU_apart h k
    have hk := h k
    rw [memU_succ, memU_succ, List.length_append, List.length_append]
    split <;> split <;> simp <;> first | omega | (exfalso; exact hk ⟨by assumption, by assumption⟩)
theorem memU_beyond {a N : Nat} (h : ∀ i, N ≤ i → a.testBit i = false) : ∀ k, N ≤ k → memU a k = memU a N
  | 0, hk => by rw [show N = 0 by omega]
  | k + 1, hk => by
    by_cases e : N = k + 1
    · rw [e]
    · rw [memU_succ, h k (by omega), if_neg (by simp), List.append_nil]; exact memU_beyond h k (by omega)
theorem allN_bit (f : Int) (hf : f = 1 ∨ f = 2 ∨ f = 3) (i : Nat) (h : 2 * f + 1 ≤ (i : Int)) : (allN f).testBit i = false := by
  have hlt : allN f < 2 ^ i := by
    rcases hf with rfl | rfl | rfl
    · exact Nat.lt_of_lt_of_le (show allN 1 < 2 ^ 3 by decide) (Nat.pow_le_pow_right (by omega) (by omega))
    · exact Nat.lt_of_lt_of_le (show allN 2 < 2 ^ 5 by decide) (Nat.pow_le_pow_right (by omega) (by omega))
    · exact Nat.lt_of_lt_of_le (show allN 3 < 2 ^ 7 by decide) (Nat.pow_le_pow_right (by omega) (by omega))
  exact Nat.testBit_lt_two_pow hlt
/-- Two majorities meet. -/
theorem maj_meet {c : Cf} (hk : c.Ok) {s t : Nat} (h1 : c.maj s = true) (h2 : c.maj t = true) :
    ∃ x : Nat, crossB ((s &&& allN c.f) &&& (t &&& allN c.f)) = (x : Int) ∧ (x : Int) < 2 * c.f + 1 ∧ s.testBit x = true ∧ t.testBit x = true := by
  have hf := hk.f_cases
  have h1' := of_decide_eq_true h1
  have h2' := of_decide_eq_true h2
  obtain ⟨N, hN⟩ : ∃ N : Nat, 2 * c.f + 1 = (N : Int) := Int.eq_ofNat_of_zero_le (by have := hk.f1; omega)
  have hN32 : N ≤ 32 := by have := hk.f3; omega
  have hal : ∀ i, N ≤ i → (allN c.f).testBit i = false := fun i hi => allN_bit c.f hf i (by omega)
  have hb1 : ∀ i, N ≤ i → (s &&& allN c.f).testBit i = false := fun i hi => by rw [Nat.testBit_and, hal i hi, Bool.and_false]
  have hb2 : ∀ i, N ≤ i → (t &&& allN c.f).testBit i = false := fun i hi => by rw [Nat.testBit_and, hal i hi, Bool.and_false]
  have e1 := memU_beyond hb1 32 hN32
  have e2 := memU_beyond hb2 32 hN32
  unfold countB at h1' h2'
  rw [e1] at h1'
  rw [e2] at h2'
  cases hm : memU ((s &&& allN c.f) &&& (t &&& allN c.f)) 32 with
  | nil =>
    exfalso
    have hno : ∀ i : Nat, ¬ ((s &&& allN c.f).testBit i = true ∧ (t &&& allN c.f).testBit i = true) := fun i hi => by
      by_cases hiN : i < N
      · have : (i : Int) ∈ memU ((s &&& allN c.f) &&& (t &&& allN c.f)) 32 := memU_mem.2 ⟨i, by omega, rfl, by rw [Nat.testBit_and, hi.1, hi.2]; rfl⟩
        rw [hm] at this
        cases this
      · rw [hb1 i (by omega)] at hi; cases hi.1
    have := memU_apart hno N
    omega
  | cons x r =>
    have hx : x ∈ memU ((s &&& allN c.f) &&& (t &&& allN c.f)) 32 := by rw [hm]; simp
    obtain ⟨i, hi, rfl, ht⟩ := memU_mem.1 hx
    rw [Nat.testBit_and, Bool.and_eq_true] at ht
    refine ⟨i, by unfold crossB; rw [hm], ?_, ?_, ?_⟩
    · rcases Nat.lt_or_ge i N with h | h
      · omega
      · rw [hb1 i h] at ht; cases ht.1
    · have := ht.1; rw [Nat.testBit_and, Bool.and_eq_true] at this; exact this.1
    · have := ht.2; rw [Nat.testBit_and, Bool.and_eq_true] at this; exact this.1
/-- So many replicas from one on. -/
def someB (fr N : Nat) : Nat → Nat
  | 0 => 0
  | i + 1 => withB (someB fr N i) (((fr + i) % N : Nat) : Int)
theorem withB_lt (s : Nat) (n : Int) (h : s < 4294967296) : withB s n < 4294967296 := by
  unfold withB
  have := Nat.or_lt_two_pow (n := 32) (x := s) (y := aloneB n) (by omega) (by have := aloneB_lt n; omega)
  omega
theorem someB_lt (fr N : Nat) : ∀ i, someB fr N i < 4294967296
  | 0 => by simp [someB]
  | i + 1 => withB_lt _ _ (someB_lt fr N i)
theorem some_dec1 : ∀ fr : Fin 3, (decide (countB (someB fr.val 3 1 &&& 7) ≥ 2) = false) ∧ (decide (countB (someB fr.val 3 2 &&& 7) ≥ 2) = true) := by decide +kernel
theorem some_dec2 : ∀ fr : Fin 5, (decide (countB (someB fr.val 5 2 &&& 31) ≥ 3) = false) ∧ (decide (countB (someB fr.val 5 3 &&& 31) ≥ 3) = true) := by decide +kernel
theorem some_dec3 : ∀ fr : Fin 7, (decide (countB (someB fr.val 7 3 &&& 127) ≥ 4) = false) ∧ (decide (countB (someB fr.val 7 4 &&& 127) ≥ 4) = true) := by decide +kernel
theorem all_dec : (decide (countB (7 &&& 7) ≥ 2) = true) ∧ (decide (countB (31 &&& 31) ≥ 3) = true) ∧ (decide (countB (127 &&& 127) ≥ 4) = true) := by decide +kernel
theorem maj_some {c : Cf} (hk : c.Ok) {F N fr : Nat} (hF : c.f = (F : Int)) (hN : N = 2 * F + 1) (hfr : fr < N) : c.maj (someB fr N F) = false ∧ c.maj (someB fr N (F + 1)) = true ∧ c.maj (allN c.f) = true := by
  have e : ∀ (x : Nat) (q : Nat), decide (((x : Nat) : Int) ≥ (q : Int)) = decide (x ≥ q) := fun x q => by rw [decide_eq_decide]; omega
  subst hN
  rcases hk.f_cases with hf | hf | hf
  · obtain rfl : F = 1 := by omega
    unfold Cf.maj
    rw [hf]
    exact ⟨(e _ 2).trans (some_dec1 ⟨fr, hfr⟩).1, (e _ 2).trans (some_dec1 ⟨fr, hfr⟩).2, (e _ 2).trans all_dec.1⟩
  · obtain rfl : F = 2 := by omega
    unfold Cf.maj
    rw [hf]
    exact ⟨(e _ 3).trans (some_dec2 ⟨fr, hfr⟩).1, (e _ 3).trans (some_dec2 ⟨fr, hfr⟩).2, (e _ 3).trans all_dec.2.1⟩
  · obtain rfl : F = 3 := by omega
    unfold Cf.maj
    rw [hf]
    exact ⟨(e _ 4).trans (some_dec3 ⟨fr, hfr⟩).1, (e _ 4).trans (some_dec3 ⟨fr, hfr⟩).2, (e _ 4).trans all_dec.2.2⟩
end Go.Proofs.Ytneginefcloceaa
