import Derived.Test.YtbfjeabngdiejaaDoorFlip
import Derived.Test.YtbfjeabngdiejaaDoorUnframe
namespace Go.Proofs.YtbfjeabngdiejaaDoor
open Go.RowKit Crc

/-- The number of ones among the lowest k bits, by twos. -/
def par : Nat → Nat → Nat
  | 0, _ => 0
  | k + 1, x => (x % 2 + par k (x / 2)) % 2
theorem par_lt : ∀ k x, par k x < 2
  | 0, _ => by simp [par]
  | k + 1, x => by simp only [par]; omega
theorem par_zero : ∀ k, par k 0 = 0
  | 0 => rfl
  | k + 1 => by simp [par, par_zero k]
theorem xor_half (a b : Nat) : (a ^^^ b) / 2 = (a / 2) ^^^ (b / 2) := by
  have := Nat.shiftRight_xor_distrib (a := a) (b := b) (i := 1)
  simpa [Nat.shiftRight_eq_div_pow] using this
theorem par_xor : ∀ k a b, par k (a ^^^ b) = (par k a + par k b) % 2
  | 0, _, _ => rfl
  | k + 1, a, b => by
    simp only [par]
    rw [xor_mod2, xor_half, par_xor k]
    omega
theorem par_add : ∀ j k c y, c < 2 ^ j → par (j + k) (c + 2 ^ j * y) = (par j c + par k y) % 2
  | 0, k, c, y, h => by
    have : c = 0 := by simpa using h
    subst this
    have := par_lt k y
    simp [par]; omega
  | j + 1, k, c, y, h => by
    have e : j + 1 + k = (j + k) + 1 := by omega
    rw [e]
    simp only [par]
    have h1 : (c + 2 ^ (j + 1) * y) % 2 = c % 2 := by rw [Nat.pow_succ, Nat.mul_assoc, Nat.mul_comm (2 ^ j), Nat.mul_assoc]; omega
    have h2 : (c + 2 ^ (j + 1) * y) / 2 = c / 2 + 2 ^ j * y := by
      rw [Nat.pow_succ, show 2 ^ j * 2 * y = 2 * (2 ^ j * y) by rw [Nat.mul_comm (2 ^ j) 2, Nat.mul_assoc]]
      generalize 2 ^ j * y = q
      omega
    rw [h1, h2, par_add j k (c / 2) y (by rw [Nat.pow_succ] at h; omega)]
    omega
def P (x : Nat) : Nat := par 32 x
theorem P_byte (c : Nat) (h : c < 256) : P c = par 8 c := by
  have := par_add 8 24 c 0 h
  rw [par_zero] at this
  have h2 := par_lt 8 c
  unfold P
  rw [show (32 : Nat) = 8 + 24 by omega, show c = c + 2 ^ 8 * 0 by omega, this]
  simp; omega
theorem P_lo4 (c0 c1 c2 c3 : Nat) (h0 : c0 < 256) (h1 : c1 < 256) (h2 : c2 < 256) (h3 : c3 < 256) : P (lo4 c0 c1 c2 c3) = (P c0 + P c1 + P c2 + P c3) % 2 := by
  rw [P_byte c0 h0, P_byte c1 h1, P_byte c2 h2, P_byte c3 h3]
  have a3 := par_add 8 0 c3 0 h3
  have a2 := par_add 8 8 c2 c3 h2
  have a1 := par_add 8 16 c1 (c2 + 2 ^ 8 * c3) h1
  have a0 := par_add 8 24 c0 (c1 + 2 ^ 8 * (c2 + 2 ^ 8 * c3)) h0
  unfold P
  rw [show lo4 c0 c1 c2 c3 = c0 + 2 ^ 8 * (c1 + 2 ^ 8 * (c2 + 2 ^ 8 * c3)) by unfold lo4; omega]
  simp only [Nat.reduceAdd] at a0 a1 a2 a3
  rw [a0, a1, a2]
  omega
theorem P_L (x : Nat) (h : x < 4294967296) : P (L x) = P x := by
  have hs := par_add 32 1 x 0 h
  simp only [Nat.mul_zero, Nat.add_zero, par_zero] at hs
  have e : par 33 x = (x % 2 + par 32 (x / 2)) % 2 := rfl
  have hl := par_lt 32 x
  have hl2 := par_lt 32 (x / 2)
  unfold P L
  rw [par_xor, Nat.shiftRight_eq_div_pow, show x / 2 ^ 1 = x / 2 by omega]
  have hc : par 32 2197175160 = 1 := by decide
  rw [show (32 + 1 : Nat) = 33 by omega, e] at hs
  by_cases hx : x % 2 = 1
  · rw [if_pos hx, hc]; omega
  · rw [if_neg hx, par_zero]; omega
theorem P_L8 (x : Nat) (h : x < 4294967296) : P (L8 x) = P x := by
  have l1 := L_lt x h
  have l2 := L_lt _ l1
  have l3 := L_lt _ l2
  have l4 := L_lt _ l3
  have l5 := L_lt _ l4
  have l6 := L_lt _ l5
  have l7 := L_lt _ l6
  unfold L8 L4
  rw [P_L _ l7, P_L _ l6, P_L _ l5, P_L _ l4, P_L _ l3, P_L _ l2, P_L _ l1, P_L _ h]

/-- .. of bytes. -/
def PB : List Nat → Nat
  | [] => 0
  | c :: r => (P c + PB r) % 2
theorem PB_lt : ∀ B, PB B < 2
  | [] => by simp [PB]
  | c :: r => by simp only [PB]; omega
theorem PB_append (A B : List Nat) : PB (A ++ B) = (PB A + PB B) % 2 := by
  induction A with
  | nil => have := PB_lt B; simp [PB]; omega
  | cons c r ih => simp only [List.cons_append, PB, ih]; omega
theorem P_sumFrom : ∀ (B : List Nat) (s : Nat), s < 4294967296 → (∀ x ∈ B, x < 256) → P (sumFrom s B) = (P s + PB B) % 2 := by
  intro B
  induction B with
  | nil => intro s _ _; have := par_lt 32 s; simp [sumFrom, PB]; unfold P; omega
  | cons c r ih =>
    intro s hs hB
    have hc := hB c (by simp)
    have hx := xor_lt32 s c hs (by omega)
    have := ih (L8 (s ^^^ c)) (L8_lt _ hx) (fun x hx => hB x (by simp [hx]))
    show P (sumFrom (L8 (s ^^^ c)) r) = _
    rw [this, P_L8 _ hx]
    unfold P at *
    rw [par_xor]
    simp only [PB]
    unfold P
    omega
theorem P_sum (B : List Nat) (hB : ∀ x ∈ B, x < 256) : P (Crc.sum B) = PB B := by
  have h := P_sumFrom B 4294967295 (by omega) hB
  unfold Crc.sum
  have hp : par 32 4294967295 = 0 := by decide
  have hl := PB_lt B
  unfold P at *
  rw [par_xor, h, hp]
  omega

theorem split4 (B : List Nat) (h : 4 ≤ B.length) : B = B.take (B.length - 4) ++ [B.getD (B.length - 4) 0, B.getD (B.length - 4 + 1) 0, B.getD (B.length - 4 + 2) 0, B.getD (B.length - 4 + 3) 0] := by
  have e := (List.take_append_drop (B.length - 4) B).symm
  have h4 : (B.drop (B.length - 4)).length = 4 := by rw [List.length_drop]; omega
  have g : ∀ i, (B.drop (B.length - 4)).getD i 0 = B.getD (B.length - 4 + i) 0 := fun i => getD_drop
  match hm : B.drop (B.length - 4), h4 with
  | [a, b, c, d], _ =>
    have g0 := g 0
    have g1 := g 1
    have g2 := g 2
    have g3 := g 3
    rw [hm] at g0 g1 g2 g3
    simp only [Nat.add_zero] at g0
    rw [← g0, ← g1, ← g2, ← g3]
    rw [hm] at e
    exact e

/-- What is taken has an even number of ones. -/
theorem even_of_ok (B : List Nat) (hB : ∀ x ∈ B, x < 256) (h : (ff B).2 = 0) : PB B = 0 := by
  obtain ⟨h12, _, _, _, _, _, hsum⟩ := ff_ok h
  have e := split4 B (by omega)
  have hp := P_sum (B.take (B.length - 4)) (fun x hx => hB x (List.mem_of_mem_take hx))
  rw [hsum] at hp
  unfold lowOf at hp
  rw [P_lo4 _ _ _ _ (getD_lt B hB _) (getD_lt B hB _) (getD_lt B hB _) (getD_lt B hB _)] at hp
  rw [e, PB_append]
  simp only [PB]
  omega

theorem P_pow (r : Nat) (h : r < 8) : P (2 ^ r) = 1 := by
  have : ∀ r, r < 8 → P (2 ^ r) = 1 := by decide
  exact this r h
theorem PB_set (x : Nat) (hx : ∀ c, P (c ^^^ x) = (P c + 1) % 2) : ∀ (F : List Nat) (j : Nat), j < F.length → PB (F.set j (F.getD j 0 ^^^ x)) = (PB F + 1) % 2
  | [], j, h => by simp at h
  | c :: r, 0, _ => by
    simp only [List.set_cons_zero, PB, List.getD_cons_zero]
    rw [hx]; omega
  | c :: r, j + 1, h => by
    simp only [List.set_cons_succ, PB, List.getD_cons_succ]
    rw [PB_set x hx r j (by simpa using h)]; omega
theorem PB_flip (F : List Nat) (j r : Nat) (hj : j < F.length) (hr : r < 8) : PB (flipB F j r) = (PB F + 1) % 2 := by
  refine PB_set _ (fun c => ?_) F j hj
  have := P_pow r hr
  unfold P at *
  rw [par_xor, this]
end Go.Proofs.YtbfjeabngdiejaaDoor
