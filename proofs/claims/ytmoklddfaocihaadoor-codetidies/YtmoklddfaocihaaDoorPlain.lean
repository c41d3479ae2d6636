namespace Go.Proofs.YtmoklddfaocihaaDoor.Crc

/-- One step of the register, no bit coming in. -/
def L (x : Nat) : Nat := (x >>> 1) ^^^ (if x % 2 = 1 then 2197175160 else 0)
def L4 (x : Nat) : Nat := L (L (L (L x)))
def L8 (x : Nat) : Nat := L4 (L4 x)

def tab : List Nat := [0, 274646895, 549293790, 820201905, 1098587580, 1361435347, 1640403810, 1905808397, 2197175160, 2460548119, 2722870694, 2987750089, 3280807620, 3553878443, 3811616794, 4084100981]

/-- The program's half step: by the table. -/
def half (s : Nat) : Nat := (s >>> 4) ^^^ tab.getD (s &&& 15) 0
def byteT (s c : Nat) : Nat := half (half (s ^^^ c))

/-- The reference's step: one bit. -/
def bit1 (x b : Nat) : Nat := if (x &&& 1) ^^^ b = 1 then (x >>> 1) ^^^ 2197175160 else x >>> 1
def bitsTo (x c : Nat) : Nat → Nat
  | 0 => x
  | k + 1 => bit1 (bitsTo x c k) ((c >>> k) &&& 1)
def byteR (x c : Nat) : Nat := bitsTo x c 8

def sumFrom (s : Nat) (B : List Nat) : Nat := B.foldl (fun s c => L8 (s ^^^ c)) s
def sum (B : List Nat) : Nat := sumFrom 4294967295 B ^^^ 4294967295

theorem xor_mod2 (a b : Nat) : (a ^^^ b) % 2 = (a % 2 + b % 2) % 2 := by
  have h := Nat.xor_mod_two_pow (a := a) (b := b) (n := 1)
  simp only [Nat.pow_one] at h
  rw [h]
  rcases Nat.mod_two_eq_zero_or_one a with ha | ha <;> rcases Nat.mod_two_eq_zero_or_one b with hb | hb <;> simp [ha, hb]

theorem L_xor (a b : Nat) : L (a ^^^ b) = L a ^^^ L b := by
  unfold L
  rw [Nat.shiftRight_xor_distrib, xor_mod2]
  rcases Nat.mod_two_eq_zero_or_one a with ha | ha <;> rcases Nat.mod_two_eq_zero_or_one b with hb | hb <;> simp [ha, hb]
  · rw [Nat.xor_assoc]
  · rw [Nat.xor_assoc, Nat.xor_comm (b >>> 1), Nat.xor_assoc]
  · rw [Nat.xor_assoc, Nat.xor_comm 2197175160, Nat.xor_assoc (b >>> 1), Nat.xor_self, Nat.xor_zero]

theorem L_even (t : Nat) : L (2 * t) = t := by
  unfold L
  rw [if_neg (by omega), Nat.xor_zero, Nat.shiftRight_eq_div_pow]
  omega

theorem L4_xor (a b : Nat) : L4 (a ^^^ b) = L4 a ^^^ L4 b := by simp only [L4, L_xor]
theorem L8_xor (a b : Nat) : L8 (a ^^^ b) = L8 a ^^^ L8 b := by simp only [L8, L4_xor]

theorem L4_high (t : Nat) : L4 (16 * t) = t := by
  unfold L4
  rw [show 16 * t = 2 * (2 * (2 * (2 * t))) by omega, L_even, L_even, L_even, L_even]

theorem tab_ok : ∀ i, i < 16 → tab.getD i 0 = L4 i := by decide

theorem split16 (s : Nat) : s = (16 * (s >>> 4)) ^^^ (s &&& 15) := by
  have e : s &&& 15 = s % 16 := Nat.and_two_pow_sub_one_eq_mod s 4
  have e2 : s >>> 4 = s / 16 := Nat.shiftRight_eq_div_pow s 4
  rw [e, e2]
  have := Nat.two_pow_add_eq_or_of_lt (i := 4) (b := s % 16) (by omega) (s / 16)
  apply Nat.eq_of_testBit_eq
  intro i
  rw [Nat.testBit_xor]
  have h1 : (16 * (s / 16)).testBit i = (decide (i ≥ 4) && s.testBit i) := by
    rw [show 16 * (s / 16) = (2 ^ 4) * (s / 16) by omega, Nat.testBit_two_pow_mul]
    by_cases h : i ≥ 4
    · simp only [h, decide_true, Bool.true_and]
      rw [show s / 16 = s >>> 4 from e2.symm, Nat.testBit_shiftRight]
      congr 1
      omega
    · simp [h]
  have h2 : (s % 16).testBit i = (decide (i < 4) && s.testBit i) := by
    rw [show (16 : Nat) = 2 ^ 4 by omega, Nat.testBit_mod_two_pow]
  rw [h1, h2]
  by_cases h : i < 4
  · have : ¬ i ≥ 4 := by omega
    simp [h, this]
  · have : i ≥ 4 := by omega
    simp [h, this]

theorem and15_lt (s : Nat) : s &&& 15 < 16 := by
  rw [Nat.and_two_pow_sub_one_eq_mod s 4]; omega

theorem half_eq (s : Nat) : half s = L4 s := by
  unfold half
  rw [tab_ok _ (and15_lt s)]
  conv => rhs; rw [split16 s]
  rw [L4_xor, L4_high]

theorem byteT_eq (s c : Nat) : byteT s c = L8 (s ^^^ c) := by
  unfold byteT L8; rw [half_eq, half_eq]

theorem and1 (x : Nat) : x &&& 1 = x % 2 := Nat.and_two_pow_sub_one_eq_mod x 1

theorem bit1_eq (x b : Nat) (hb : b < 2) : bit1 x b = L (x ^^^ b) := by
  unfold bit1 L
  rw [and1, xor_mod2, Nat.shiftRight_xor_distrib]
  have hb' : b = 0 ∨ b = 1 := by omega
  rcases hb' with rfl | rfl <;> rcases Nat.mod_two_eq_zero_or_one x with hx | hx <;> simp [hx]

/-- The bits of c that have come in, k of them: the register is L^k of x and c's bits, those above shifted down. -/
def Lk (x : Nat) : Nat → Nat
  | 0 => x
  | k + 1 => L (Lk x k)
theorem Lk_xor (a b : Nat) : ∀ k, Lk (a ^^^ b) k = Lk a k ^^^ Lk b k
  | 0 => rfl
  | k + 1 => by simp only [Lk, Lk_xor a b k, L_xor]

theorem split2 (c : Nat) : c = (2 * (c >>> 1)) ^^^ (c &&& 1) := by
  have e2 : c >>> 1 = c / 2 := Nat.shiftRight_eq_div_pow c 1
  rw [e2, and1]
  apply Nat.eq_of_testBit_eq
  intro i
  rw [Nat.testBit_xor]
  cases i with
  | zero => simp [Nat.testBit_zero, Nat.mul_mod_right]
  | succ n =>
    have h2 : (c % 2).testBit (n + 1) = false := by
      apply Nat.testBit_lt_two_pow
      have := Nat.one_lt_two_pow (n := n + 1) (by omega)
      have := Nat.mod_lt c (show 0 < 2 by omega)
      have : 2 ≤ 2 ^ (n + 1) := by rw [Nat.pow_succ]; have := Nat.one_le_two_pow (n := n); omega
      omega
    rw [h2, show 2 * (c / 2) = 2 ^ 1 * (c / 2) by omega, Nat.testBit_two_pow_mul]
    simp [Nat.testBit_succ]

theorem L_low (y c : Nat) : L (y ^^^ (c &&& 1)) = L (y ^^^ c) ^^^ (c >>> 1) := by
  have h : y ^^^ c = (y ^^^ (c &&& 1)) ^^^ (2 * (c >>> 1)) := by
    conv => lhs; rw [split2 c]
    rw [Nat.xor_assoc, Nat.xor_comm (c &&& 1)]
  rw [h, L_xor (y ^^^ (c &&& 1)) (2 * (c >>> 1)), L_even, Nat.xor_assoc, Nat.xor_self, Nat.xor_zero]

theorem bitsTo_eq (x c : Nat) : ∀ k, bitsTo x c k = Lk (x ^^^ c) k ^^^ (c >>> k)
  | 0 => by simp [bitsTo, Lk, Nat.xor_assoc]
  | k + 1 => by
    have hb : (c >>> k) &&& 1 < 2 := by rw [and1]; omega
    simp only [bitsTo, Lk]
    rw [bit1_eq _ _ hb, bitsTo_eq x c k, L_low, Nat.xor_assoc, Nat.xor_self, Nat.xor_zero, ← Nat.shiftRight_add]

theorem Lk8 (x : Nat) : Lk x 8 = L8 x := rfl

theorem byteR_eq (x c : Nat) (hc : c < 256) : byteR x c = L8 (x ^^^ c) := by
  unfold byteR
  rw [bitsTo_eq, Lk8, Nat.shiftRight_eq_div_pow, Nat.div_eq_of_lt (by omega), Nat.xor_zero]

theorem L_lt (x : Nat) (h : x < 4294967296) : L x < 4294967296 := by
  unfold L
  have h1 : x >>> 1 < 2 ^ 32 := by rw [Nat.shiftRight_eq_div_pow]; omega
  by_cases hx : x % 2 = 1
  · rw [if_pos hx]; exact Nat.xor_lt_two_pow h1 (by omega)
  · rw [if_neg hx, Nat.xor_zero]; omega
theorem L8_lt (x : Nat) (h : x < 4294967296) : L8 x < 4294967296 :=
  L_lt _ (L_lt _ (L_lt _ (L_lt _ (L_lt _ (L_lt _ (L_lt _ (L_lt _ h)))))))
theorem xor_lt32 (x c : Nat) (h : x < 4294967296) (hc : c < 4294967296) : x ^^^ c < 4294967296 :=
  Nat.xor_lt_two_pow (n := 32) h hc

theorem sumFrom_lt (B : List Nat) : ∀ s, s < 4294967296 → (∀ x ∈ B, x < 256) → sumFrom s B < 4294967296 := by
  induction B with
  | nil => intro s h _; exact h
  | cons c r ih =>
    intro s h hB
    have hc := hB c (by simp)
    exact ih _ (L8_lt _ (xor_lt32 _ _ h (by omega))) (fun x hx => hB x (by simp [hx]))

theorem sumFrom_snoc (s : Nat) (B : List Nat) (c : Nat) : sumFrom s (B ++ [c]) = L8 (sumFrom s B ^^^ c) := by
  simp [sumFrom, List.foldl_append]

theorem getD_lt (B : List Nat) (hB : ∀ x ∈ B, x < 256) (k : Nat) : B.getD k 0 < 256 := by
  rw [List.getD_eq_getElem?_getD]
  cases h : B[k]? with
  | none => simp
  | some v => exact hB v (List.mem_of_getElem? h)

theorem take_snoc (B : List Nat) (k : Nat) (h : k < B.length) : B.take (k + 1) = B.take k ++ [B.getD k 0] := by
  rw [List.take_succ_eq_append_getElem h]; simp [h]

theorem sumFrom_step (s : Nat) (B : List Nat) (k : Nat) (h : k < B.length) : sumFrom s (B.take (k + 1)) = L8 (sumFrom s (B.take k) ^^^ B.getD k 0) := by
  rw [take_snoc B k h, sumFrom_snoc]

end Go.Proofs.YtmoklddfaocihaaDoor.Crc
