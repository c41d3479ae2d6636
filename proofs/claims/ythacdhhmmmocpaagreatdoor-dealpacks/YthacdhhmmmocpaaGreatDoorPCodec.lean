import Derived.Test.YthacdhhmmmocpaaGreatDoorM24
namespace Go.Proofs.YthacdhhmmmocpaaGreatDoor
open Go.RowKit Crc

theorem hi_snoc (l : List Nat) (c : Nat) : hi (l ++ [c]) = hi l * 256 + c := by simp [hi, List.foldl_append]
theorem hi_bigTo (v s : Nat) : ∀ j, j ≤ s → hi (bigTo v s j) = v / 2 ^ (8 * (s - j)) % 256 ^ j
  | 0, _ => by simp [bigTo, hi, Nat.mod_one]
  | j + 1, h => by
    rw [bigTo, hi_snoc, hi_bigTo v s j (by omega), show s - (j + 1) = s - 1 - j by omega, show 8 * (s - j) = 8 * (s - 1 - j) + 8 by omega, Nat.pow_add, ← Nat.div_div_eq_div_mul]
    generalize v / 2 ^ (8 * (s - 1 - j)) = u
    have e1 : (256 : Nat) ^ (j + 1) = 256 * 256 ^ j := by rw [Nat.pow_succ, Nat.mul_comm]
    have e2 : (2 : Nat) ^ 8 = 256 := rfl
    rw [e1, e2, Nat.mod_mul]
    omega
theorem hi_big (v s : Nat) (h : v < 256 ^ s) : hi (big v s) = v := by
  unfold big
  rw [hi_bigTo v s s (Nat.le_refl _), Nat.sub_self]
  simp [Nat.mod_eq_of_lt h]
theorem ahead_big (v s : Nat) (R : List Nat) (h : v < 256 ^ s) : hi (aheadV (big v s ++ R) s) = v ∧ aheadW (big v s ++ R) s = 0 := by
  have hl : (big v s).length = s := big_len v s s
  unfold aheadV aheadW
  rw [List.length_append, hl, if_neg (by omega), if_neg (by omega)]
  refine ⟨?_, rfl⟩
  rw [List.take_append_of_le_length (by omega), List.take_of_length_le (by omega)]
  exact hi_big v s h

theorem numGo_numTo : ∀ (f v i n : Nat) (R : List Nat), f + i = 9 → v * 2 ^ (7 * i) < 18446744073709551616 → (0 < v ∨ i = 0) → numGo (numTo f v ++ R) i n = (n + v * 2 ^ (7 * i), i + (numTo f v).length, 0)
  | 0, v, i, n, R, hf, hv, h0 => by
    obtain rfl : i = 9 := by omega
    have h1 : v = 1 := by omega
    subst h1
    simp [numTo, numGo]
  | f + 1, v, i, n, R, hf, hv, h0 => by
    have hi9 : ¬ i = 9 := by omega
    rw [numTo]
    by_cases hs : v < 128
    · rw [if_pos hs]
      simp only [List.cons_append, List.nil_append, numGo, List.length_cons, List.length_nil]
      rw [if_neg (by omega), if_neg (by omega), if_neg (by omega), Nat.mod_eq_of_lt hs]
    · rw [if_neg hs]
      simp only [List.cons_append, numGo, List.length_cons]
      rw [if_neg (by omega), if_pos (by omega)]
      have e : v % 128 * 2 ^ (7 * i) + v / 128 * 2 ^ (7 * (i + 1)) = v * 2 ^ (7 * i) := by
        rw [show 7 * (i + 1) = 7 + 7 * i by omega, Nat.pow_add, ← Nat.mul_assoc, ← Nat.add_mul]
        congr 1
        have : (2 : Nat) ^ 7 = 128 := rfl
        rw [this]
        omega
      have hm : (v % 128 + 128) % 128 = v % 128 := by omega
      rw [hm, numGo_numTo f (v / 128) (i + 1) _ R (by omega) (by omega) (.inl (by omega))]
      rw [Nat.add_assoc n, e]
      congr 2
      omega
theorem numAt_numB (v : Nat) (R : List Nat) (hv : v < 18446744073709551616) : numAt (numB v ++ R) = (v, (numB v).length, 0) := by
  unfold numAt numB
  rw [numGo_numTo 9 v 0 0 R rfl (by simpa using hv) (.inr rfl)]
  simp
theorem countAt_numB (v : Nat) (R : List Nat) (most : Int) (hv : v < 18446744073709551616) (hm : (v : Int) ≤ most) : countAt (numB v ++ R) most = (v, (numB v).length, 0) := by
  unfold countAt
  rw [numAt_numB v R hv]
  rw [if_neg (by simp), if_neg (by simp; omega)]
theorem blobAt_numB (B R : List Nat) (most : Int) (hv : B.length < 18446744073709551616) (hm : (B.length : Int) ≤ most) : blobAt (numB B.length ++ (B ++ R)) most = (B, (numB B.length).length + B.length, 0) := by
  unfold blobAt
  rw [countAt_numB _ _ _ hv hm]
  simp only
  rw [if_neg (by simp), if_neg (by simp)]
  rw [List.drop_left, List.take_left]
theorem flag_big (b : Bool) (R : List Nat) : flagV (big (if b then 1 else 0) 1 ++ R) = b ∧ flagW (big (if b then 1 else 0) 1 ++ R) = 0 := by
  cases b <;> exact ⟨rfl, rfl⟩
end Go.Proofs.YthacdhhmmmocpaaGreatDoor
