import Derived.Test.YtgdliomkdkjlaaaPReaderD
import Derived.Test.YtgdliomkdkjlaaaPCopied
namespace Go.Proofs.Ytgdliomkdkjlaaa
open Go.RowKit Crc

theorem numGo_ok : ∀ (B : List Nat) (i n : Nat), i ≤ 9 → n < 2 ^ (7 * i) → (numGo B i n).1 < 18446744073709551616 ∧ (numGo B i n).2.1 ≤ i + B.length ∧ (numGo B i n).2.1 ≤ 10 ∧ ((numGo B i n).2.2 ≠ 0 → (numGo B i n).1 = 0 ∧ (numGo B i n).2.1 = 0)
  | [], i, n, hi, hn => by simp [numGo]
  | c :: r, i, n, hi, hn => by
    have hstep : n + c % 128 * 2 ^ (7 * i) < 2 ^ (7 * (i + 1)) := by
      rw [show 7 * (i + 1) = 7 * i + 7 by omega, Nat.pow_add]
      have h2 : c % 128 * 2 ^ (7 * i) ≤ 127 * 2 ^ (7 * i) := Nat.mul_le_mul_right _ (by omega)
      omega
    rw [numGo]
    split
    · simp
    · rename_i h9
      split
      · rename_i h128
        have := numGo_ok r (i + 1) (n + c % 128 * 2 ^ (7 * i)) (by omega) hstep
        refine ⟨this.1, ?_, this.2.2⟩
        have h2 := this.2.1
        simp only [List.length_cons]
        omega
      · split
        · simp
        · refine ⟨?_, by simp only [List.length_cons]; omega, by show i + 1 ≤ 10; omega, fun h => absurd rfl h⟩
          show n + c % 128 * 2 ^ (7 * i) < _
          rcases Nat.lt_or_ge i 9 with h | h
          · have h1 : 2 ^ (7 * (i + 1)) ≤ 2 ^ 63 := Nat.pow_le_pow_right (by omega) (by omega)
            omega
          · obtain rfl : i = 9 := by omega
            have : c % 128 ≤ 1 := by omega
            have : c % 128 * 2 ^ (7 * 9) ≤ 1 * 2 ^ (7 * 9) := Nat.mul_le_mul_right _ this
            omega
theorem numAt_ok (B : List Nat) : (numAt B).1 < 18446744073709551616 ∧ (numAt B).2.1 ≤ B.length ∧ (numAt B).2.1 ≤ 10 ∧ ((numAt B).2.2 ≠ 0 → (numAt B).1 = 0 ∧ (numAt B).2.1 = 0) := by
  have := numGo_ok B 0 0 (by omega) (by simp)
  simpa [numAt] using this

/-- A length at the head of bytes. -/
def countAt (B : List Nat) (most : Int) : Nat × Nat × Int :=
  if (numAt B).2.2 ≠ 0 then (0, 0, (numAt B).2.2) else if most < ((numAt B).1 : Int) then (0, 0, 21) else ((numAt B).1, (numAt B).2.1, 0)
/-- Bytes with their number ahead. -/
def blobAt (B : List Nat) (most : Int) : List Nat × Nat × Int :=
  if (countAt B most).2.2 ≠ 0 then ([], 0, (countAt B most).2.2) else if B.length < (countAt B most).2.1 + (countAt B most).1 then ([], 0, 20) else ((B.drop (countAt B most).2.1).take (countAt B most).1, (countAt B most).2.1 + (countAt B most).1, 0)

set_option maxRecDepth 10000 in
set_option maxHeartbeats 800000 in
theorem countAhead_any {lim : Nat} {w : World} {ao : Option Addr} {n cap : Nat} {B : List Nat} (h : Shows lim w ao n cap B) (most : Int) (hm1 : -9223372036854775808 ≤ most) (hm2 : most < 9223372036854775808) :
    Calls Try.prog 88 #[.slice ao n cap, .int .i64 most] w fun e w' => e = .returned (.tuple #[.int .i64 ((countAt B most).1 : Nat), .int .i64 ((countAt B most).2.1 : Nat), .int .i64 (countAt B most).2.2]) ∧ ∃ q, w' = w.drewN q := by
  have HNA := hide (numAhead_any h)
  obtain ⟨k1, k2, k3, _⟩ := numAt_ok B
  have HCA : Hid (countAt B most = if (numAt B).2.2 ≠ 0 then (0, 0, (numAt B).2.2) else if most < ((numAt B).1 : Int) then (0, 0, 21) else ((numAt B).1, (numAt B).2.1, 0)) := rfl
  clear h
  generalize hr : numAt B = r at *
  clear hr
  obtain ⟨x, z, y⟩ := r
  simp only at k1 k2 k3
  by_cases hy : y = 0
  · subst hy
    by_cases hmx : most < (x : Int)
    · have HF : Hid (countAt B most = (0, 0, 21)) := by have := HCA.out; simp [hmx] at this; exact this
      clear HCA
      by_cases hm0 : most < 0
      · have d0 : decide (most < 0) = true := by simp; omega
        go_enter Try.func88, Try.ntmps88
        go_wp2_with fail
        refine HNA.out.mono ?_
        rintro e w1 ⟨rfl, rfl⟩
        go_wp2
        go_ret3
        exact ⟨by rw [HF.out]; rfl, 0, rfl⟩
      · have d0 : decide (most < 0) = false := by simp; omega
        have e0 : most % 18446744073709551616 = most := by omega
        have d1 : decide (most < (x : Int)) = true := by simp; omega
        go_enter Try.func88, Try.ntmps88
        go_wp2_with fail
        refine HNA.out.mono ?_
        rintro e w1 ⟨rfl, rfl⟩
        go_wp2
        go_ret3
        exact ⟨by rw [HF.out]; rfl, 0, rfl⟩
    · have HF : Hid (countAt B most = (x, z, 0)) := by have := HCA.out; simp [hmx] at this; exact this
      have d0 : decide (most < 0) = false := by simp; omega
      have e0 : most % 18446744073709551616 = most := by omega
      have d1 : decide (most < (x : Int)) = false := by simp; omega
      have hx63 : (x : Int) < 9223372036854775808 := by omega
      clear HCA
      go_enter Try.func88, Try.ntmps88
      go_wp2_with fail
      refine HNA.out.mono ?_
      rintro e w1 ⟨rfl, rfl⟩
      go_wp2
      go_ret3
      exact ⟨by rw [HF.out]; rfl, 0, rfl⟩
  · have HF : Hid (countAt B most = (0, 0, y)) := by have := HCA.out; simp [hy] at this; exact this
    have hyb : (y == 0) = false := by simp [hy]
    clear HCA hy
    go_enter Try.func88, Try.ntmps88
    go_wp2_with fail
    refine HNA.out.mono ?_
    rintro e w1 ⟨rfl, rfl⟩
    go_wp2
    go_ret3
    exact ⟨by rw [HF.out]; rfl, 0, rfl⟩
end Go.Proofs.Ytgdliomkdkjlaaa
