import Derived.Test.YtldhafpeigdloaaGreatDoorRows
import Derived.WalkKit
import Derived.WalkSpells
import Derived.Outline
import Derived.Maps.AppendAt
import Derived.Deep.DeepAppendRoom
import Derived.ArgAppend
import Derived.Laws.CopyOwn
import Derived.Laws.OwnMore
import Derived.WalkSmall
import Derived.Deep.QuietTactic
import Derived.BigQuiet
import Derived.Deep.RegionHeld
import Derived.Laws.BitsAllLaws
namespace Go.Proofs.YtldhafpeigdloaaGreatDoor.Crc

/-- One step of the register, no bit coming in. -/
def L (x : Nat) : Nat := (x >>> 1) ^^^ (if x % 2 = 1 then 2197175160 else 0)
def L4 (x : Nat) : Nat := L (L (L (L x)))
def L8 (x : Nat) : Nat := L4 (L4 x)

def tab : List Nat := [0, 274646895, 549293790, 820201905, 1098587580, 1361435347, 1640403810, 1905808397, 2197175160, 2460548119, 2722870694, 2987750089, 3280807620, 3553878443, 3811616794, 4084100981]

/-- The program's half step: by the table. -/
def half (s : Nat) : Nat := (s >>> 4) ^^^ tab.getD (s &&& 15) 0
def byteT (s c : Nat) : Nat := half (half (s ^^^ c))

/-- The reference's step: one bit. -/
def bit1 (x b : Nat) : Nat := if (x &&& 1) ^^^ b = 1 then (x >>> 1) ^^^ 2197175160 else x >>> 1
def bitsTo (x c : Nat) : Nat → Nat
  | 0 => x
  | k + 1 => bit1 (bitsTo x c k) ((c >>> k) &&& 1)
def byteR (x c : Nat) : Nat := bitsTo x c 8

def sumFrom (s : Nat) (B : List Nat) : Nat := B.foldl (fun s c => L8 (s ^^^ c)) s
def sum (B : List Nat) : Nat := sumFrom 4294967295 B ^^^ 4294967295

theorem xor_mod2 (a b : Nat) : (a ^^^ b) % 2 = (a % 2 + b % 2) % 2 := by
  have h := Nat.xor_mod_two_pow (a := a) (b := b) (n := 1)
  simp only [Nat.pow_one] at h
  rw [h]
  rcases Nat.mod_two_eq_zero_or_one a with ha | ha <;> rcases Nat.mod_two_eq_zero_or_one b with hb | hb <;> simp [ha, hb]

theorem L_xor (a b : Nat) : L (a ^^^ b) = L a ^^^ L b := by
  unfold L
  rw [Nat.shiftRight_xor_distrib, xor_mod2]
  rcases Nat.mod_two_eq_zero_or_one a with ha | ha <;> rcases Nat.mod_two_eq_zero_or_one b with hb | hb <;> simp [ha, hb]
  · rw [Nat.xor_assoc]
  · rw [Nat.xor_assoc, Nat.xor_comm (b >>> 1), Nat.xor_assoc]
  · rw [Nat.xor_assoc, Nat.xor_comm 2197175160, Nat.xor_assoc (b >>> 1), Nat.xor_self, Nat.xor_zero]

theorem L_even (t : Nat) : L (2 * t) = t := by
  unfold L
  rw [if_neg (by omega), Nat.xor_zero, Nat.shiftRight_eq_div_pow]
  omega

theorem L4_xor (a b : Nat) : L4 (a ^^^ b) = L4 a ^^^ L4 b := by simp only [L4, L_xor]
theorem L8_xor (a b : Nat) : L8 (a ^^^ b) = L8 a ^^^ L8 b := by simp only [L8, L4_xor]

theorem L4_high (t : Nat) : L4 (16 * t) = t := by
  unfold L4
  rw [show 16 * t = 2 * (2 * (2 * (2 * t))) by omega, L_even, L_even, L_even, L_even]

theorem tab_ok : ∀ i, i < 16 → tab.getD i 0 = L4 i := by decide

theorem split16 (s : Nat) : s = (16 * (s >>> 4)) ^^^ (s &&& 15) := by
  have e : s &&& 15 = s % 16 := Nat.and_two_pow_sub_one_eq_mod s 4
  have e2 : s >>> 4 = s / 16 := Nat.shiftRight_eq_div_pow s 4
  rw [e, e2]
  have := Nat.two_pow_add_eq_or_of_lt (i := 4) (b := s % 16) (by omega) (s / 16)
  apply Nat.eq_of_testBit_eq
  intro i
  rw [Nat.testBit_xor]
  have h1 : (16 * (s / 16)).testBit i = (decide (i ≥ 4) && s.testBit i) := by
    rw [show 16 * (s / 16) = (2 ^ 4) * (s / 16) by omega, Nat.testBit_two_pow_mul]
    by_cases h : i ≥ 4
    · simp only [h, decide_true, Bool.true_and]
      rw [show s / 16 = s >>> 4 from e2.symm, Nat.testBit_shiftRight]
      congr 1
      omega
    · simp [h]
  have h2 : (s % 16).testBit i = (decide (i < 4) && s.testBit i) := by
    rw [show (16 : Nat) = 2 ^ 4 by omega, Nat.testBit_mod_two_pow]
  rw [h1, h2]
  by_cases h : i < 4
  · have : ¬ i ≥ 4 := by omega
    simp [h, this]
  · have : i ≥ 4 := by omega
    simp [h, this]

theorem and15_lt (s : Nat) : s &&& 15 < 16 := by
  rw [Nat.and_two_pow_sub_one_eq_mod s 4]; omega

theorem half_eq (s : Nat) : half s = L4 s := by
  unfold half
  rw [tab_ok _ (and15_lt s)]
  conv => rhs; rw [split16 s]
  rw [L4_xor, L4_high]

theorem byteT_eq (s c : Nat) : byteT s c = L8 (s ^^^ c) := by
  unfold byteT L8; rw [half_eq, half_eq]

theorem and1 (x : Nat) : x &&& 1 = x % 2 := Nat.and_two_pow_sub_one_eq_mod x 1

theorem bit1_eq (x b : Nat) (hb : b < 2) : bit1 x b = L (x ^^^ b) := by
  unfold bit1 L
  rw [and1, xor_mod2, Nat.shiftRight_xor_distrib]
  have hb' : b = 0 ∨ b = 1 := by omega
  rcases hb' with rfl | rfl <;> rcases Nat.mod_two_eq_zero_or_one x with hx | hx <;> simp [hx]

/-- The bits of c that have come in, k of them: the register is L^k of x and c's bits, those above shifted down. -/
def Lk (x : Nat) : Nat → Nat
  | 0 => x
  | k + 1 => L (Lk x k)
theorem Lk_xor (a b : Nat) : ∀ k, Lk (a ^^^ b) k = Lk a k ^^^ Lk b k
  | 0 => rfl
  | k + 1 => by simp only [Lk, Lk_xor a b k, L_xor]

theorem split2 (c : Nat) : c = (2 * (c >>> 1)) ^^^ (c &&& 1) := by
  have e2 : c >>> 1 = c / 2 := Nat.shiftRight_eq_div_pow c 1
  rw [e2, and1]
  apply Nat.eq_of_testBit_eq
  intro i
  rw [Nat.testBit_xor]
  cases i with
  | zero => simp [Nat.testBit_zero, Nat.mul_mod_right]
  | succ n =>
    have h2 : (c % 2).testBit (n + 1) = false := by
      apply Nat.testBit_lt_two_pow
      have := Nat.one_lt_two_pow (n := n + 1) (by omega)
      have := Nat.mod_lt c (show 0 < 2 by omega)
      have : 2 ≤ 2 ^ (n + 1) := by rw [Nat.pow_succ]; have := Nat.one_le_two_pow (n := n); omega
      omega
    rw [h2, show 2 * (c / 2) = 2 ^ 1 * (c / 2) by omega, Nat.testBit_two_pow_mul]
    simp [Nat.testBit_succ]

theorem L_low (y c : Nat) : L (y ^^^ (c &&& 1)) = L (y ^^^ c) ^^^ (c >>> 1) := by
  have h : y ^^^ c = (y ^^^ (c &&& 1)) ^^^ (2 * (c >>> 1)) := by
    conv => lhs; rw [split2 c]
    rw [Nat.xor_assoc, Nat.xor_comm (c &&& 1)]
  rw [h, L_xor (y ^^^ (c &&& 1)) (2 * (c >>> 1)), L_even, Nat.xor_assoc, Nat.xor_self, Nat.xor_zero]

theorem bitsTo_eq (x c : Nat) : ∀ k, bitsTo x c k = Lk (x ^^^ c) k ^^^ (c >>> k)
  | 0 => by simp [bitsTo, Lk, Nat.xor_assoc]
  | k + 1 => by
    have hb : (c >>> k) &&& 1 < 2 := by rw [and1]; omega
    simp only [bitsTo, Lk]
    rw [bit1_eq _ _ hb, bitsTo_eq x c k, L_low, Nat.xor_assoc, Nat.xor_self, Nat.xor_zero, ← Nat.shiftRight_add]

theorem Lk8 (x : Nat) : Lk x 8 = L8 x := rfl

theorem byteR_eq (x c : Nat) (hc : c < 256) : byteR x c = L8 (x ^^^ c) := by
  unfold byteR
  rw [bitsTo_eq, Lk8, Nat.shiftRight_eq_div_pow, Nat.div_eq_of_lt (by omega), Nat.xor_zero]

theorem L_lt (x : Nat) (h : x < 4294967296) : L x < 4294967296 := by
  unfold L
  have h1 : x >>> 1 < 2 ^ 32 := by rw [Nat.shiftRight_eq_div_pow]; omega
  by_cases hx : x % 2 = 1
  · rw [if_pos hx]; exact Nat.xor_lt_two_pow h1 (by omega)
  · rw [if_neg hx, Nat.xor_zero]; omega
theorem L8_lt (x : Nat) (h : x < 4294967296) : L8 x < 4294967296 :=
  L_lt _ (L_lt _ (L_lt _ (L_lt _ (L_lt _ (L_lt _ (L_lt _ (L_lt _ h)))))))
theorem xor_lt32 (x c : Nat) (h : x < 4294967296) (hc : c < 4294967296) : x ^^^ c < 4294967296 :=
  Nat.xor_lt_two_pow (n := 32) h hc

theorem sumFrom_lt (B : List Nat) : ∀ s, s < 4294967296 → (∀ x ∈ B, x < 256) → sumFrom s B < 4294967296 := by
  induction B with
  | nil => intro s h _; exact h
  | cons c r ih =>
    intro s h hB
    have hc := hB c (by simp)
    exact ih _ (L8_lt _ (xor_lt32 _ _ h (by omega))) (fun x hx => hB x (by simp [hx]))

theorem sumFrom_snoc (s : Nat) (B : List Nat) (c : Nat) : sumFrom s (B ++ [c]) = L8 (sumFrom s B ^^^ c) := by
  simp [sumFrom, List.foldl_append]

theorem getD_lt (B : List Nat) (hB : ∀ x ∈ B, x < 256) (k : Nat) : B.getD k 0 < 256 := by
  rw [List.getD_eq_getElem?_getD]
  cases h : B[k]? with
  | none => simp
  | some v => exact hB v (List.mem_of_getElem? h)

theorem take_snoc (B : List Nat) (k : Nat) (h : k < B.length) : B.take (k + 1) = B.take k ++ [B.getD k 0] := by
  rw [List.take_succ_eq_append_getElem h]; simp [h]

theorem sumFrom_step (s : Nat) (B : List Nat) (k : Nat) (h : k < B.length) : sumFrom s (B.take (k + 1)) = L8 (sumFrom s (B.take k) ^^^ B.getD k 0) := by
  rw [take_snoc B k h, sumFrom_snoc]

end Go.Proofs.YtldhafpeigdloaaGreatDoor.Crc
namespace Go.Proofs.YtldhafpeigdloaaGreatDoor
open Go.RowKit Crc

theorem hide {p : Prop} (h : p) : Hid p := h

def vals (B : List Nat) : List Value := B.map fun (x : Nat) => .int .u8 (x : Int)
theorem vals_append (A B : List Nat) : vals (A ++ B) = vals A ++ vals B := by simp [vals]
theorem vals_one (c : Nat) : vals [c] = [.int .u8 (c : Int)] := rfl
theorem Tryz.info5 : (Tryz.prog.info? 5).map (fun i => (i.zero, i.size, i.bytes)) = some (some (.int .u8 0), 1, 1) := by kernel_rfl
def marksTo (k : Nat) : List Nat := (List.range k).map (fun i => 160 + i)
theorem marksTo_succ (k : Nat) : marksTo (k + 1) = marksTo k ++ [160 + k] := by simp [marksTo, List.range_succ]
theorem Shade.one (x : Value) (h : x.oneCell' = true) : ∀ u ∈ [x], u.oneCell' = true := by intro u hu; simp at hu; subst hu; exact h
end Go.Proofs.YtldhafpeigdloaaGreatDoor
namespace Go.Proofs.YtldhafpeigdloaaGreatDoor
open Go.RowKit Crc

theorem getD_take {B : List Nat} {k i : Nat} (h : i < k) : (B.take k).getD i 0 = B.getD i 0 := by
  rw [List.getD_eq_getElem?_getD, List.getD_eq_getElem?_getD, List.getElem?_take, if_pos h]
theorem getD_drop {B : List Nat} {k i : Nat} : (B.drop k).getD i 0 = B.getD (k + i) 0 := by
  rw [List.getD_eq_getElem?_getD, List.getD_eq_getElem?_getD, List.getElem?_drop]
def hi (B : List Nat) : Nat := B.foldl (fun v c => v * 256 + c) 0
theorem hi_step (B : List Nat) (k : Nat) (h : k < B.length) : hi (B.take (k + 1)) = hi (B.take k) * 256 + B.getD k 0 := by
  rw [take_snoc B k h]; simp [hi, List.foldl_append]
theorem hi_lt (B : List Nat) (hB : ∀ x ∈ B, x < 256) : hi B < 256 ^ B.length := by
  have gen : ∀ (B : List Nat) (v : Nat), (∀ x ∈ B, x < 256) → B.foldl (fun v c => v * 256 + c) v < (v + 1) * 256 ^ B.length := by
    intro B
    induction B with
    | nil => intro v _; simp
    | cons c r ih =>
      intro v hB
      have hc := hB c (by simp)
      have := ih (v * 256 + c) (fun x hx => hB x (by simp [hx]))
      simp only [List.foldl_cons, List.length_cons]
      refine Nat.lt_of_lt_of_le this ?_
      rw [Nat.pow_succ, Nat.mul_comm (256 ^ r.length) 256, ← Nat.mul_assoc]
      exact Nat.mul_le_mul_right _ (by omega)
  have := gen B 0 hB
  simpa [hi] using this
theorem or_u64 (v c : Nat) (hv : v < 72057594037927936) (hc : c < 256) : bits .or .u64 ((v : Int) * (256 : Int)) (c : Int) = ((v * 256 + c : Nat) : Int) := by
  have e : (v : Int) * (256 : Int) = ((v * 256 : Nat) : Int) := by omega
  rw [e, u64_or_nat _ _ (by omega) (by omega)]
  congr 1
  have := Nat.two_pow_add_eq_or_of_lt (i := 8) (b := c) hc v
  rw [show v * 256 = 2 ^ 8 * v by omega, ← this]
theorem or_add (a c k : Nat) (h : a < 2 ^ k) : a ||| c * 2 ^ k = a + c * 2 ^ k := by
  have := Nat.two_pow_add_eq_or_of_lt (i := k) (b := a) h c
  rw [Nat.or_comm, Nat.mul_comm c, ← this, Nat.add_comm]
theorem vals_len (B : List Nat) : (vals B).length = B.length := by simp [vals]
theorem vals_get (B : List Nat) (j : Nat) (v : Value) (h : (vals B)[j]? = some v) : j < B.length ∧ v = .int .u8 ((B.getD j 0 : Nat) : Int) := by
  unfold vals at h
  rw [List.getElem?_map] at h
  cases hb : B[j]? with
  | none => rw [hb] at h; cases h
  | some x =>
    rw [hb] at h
    refine ⟨(List.getElem?_eq_some_iff.1 hb).1, ?_⟩
    rw [List.getD_eq_getElem?_getD, hb]
    simp at h
    exact h.symm
theorem add_at (b off j : Nat) : (⟨b, off, none⟩ : Addr).add j = ⟨b, off + j, none⟩ := by unfold Addr.add; split <;> simp_all
theorem vals_cell {w : World} {b off : Nat} {B : List Nat} (hc : ∀ i, i < B.length → w.cell? ⟨b, off + i, none⟩ = some (.int .u8 ((B.getD i 0 : Nat) : Int))) :
    ∀ j v, (vals B)[j]? = some v → w.cell? ((⟨b, off, none⟩ : Addr).add j) = some v := by
  intro j v h
  obtain ⟨hj, rfl⟩ := vals_get B j v h
  rw [add_at]
  exact hc j hj
theorem vals_one' (B : List Nat) : ∀ u ∈ vals B, u.oneCell' = true := by
  intro u hu
  simp only [vals, List.mem_map] at hu
  obtain ⟨x, _, rfl⟩ := hu
  rfl
theorem own_block {w : World} {base g n cap : Nat} {xs : List Value} (h : w.ownsRow base 5 1 (.slice (some ⟨g, 0, none⟩) n cap) n xs) : ∃ cur : Array Value, w.heap[g]? = some (.cells cur 5 (0, 0)) ∧ cur.size = cap ∧ n ≤ cap ∧ cur.toList.take n = xs := by
  rcases h.2 with ⟨h0, _⟩ | ⟨g', cap', cur, hv, hbg, hg, hnc, hcm, hcs, htake⟩
  · cases h0
  · cases hv
    exact ⟨cur, hg, by omega, hnc, by simpa using htake⟩
/-- A block whose cells are just these is owned. -/
theorem owns_of {w : World} {base g n cap : Nat} {cur : Array Value} {xs : List Value} (hb : base ≤ g) (hg : w.heap[g]? = some (.cells cur 5 (0, 0))) (hs : cur.size = cap) (hm : cap ≤ maxLen) (hn : n ≤ cap) (ht : cur.toList.take n = xs) :
    w.ownsRow base 5 1 (.slice (some ⟨g, 0, none⟩) n cap) n xs := by
  refine ⟨?_, .inr ⟨g, cap, cur, rfl, hb, hg, hn, hm, by omega, by simpa using ht⟩⟩
  rw [← ht, List.length_take]; simp; omega
theorem size5 : (Tryz.prog.info? 5).map (·.size) = some 1 := by kernel_rfl
/-- Bytes in memory of their own, made since w. -/
def Fresh (w w' : World) (v : Value) (B : List Nat) : Prop := w'.ownsRow w.heap.size 5 1 v B.length (vals B) ∧ Below w.heap.size w w'
/-- The lowest s bytes of v, the high one first: the first j of them. -/
def bigTo (v s : Nat) : Nat → List Nat
  | 0 => []
  | j + 1 => bigTo v s j ++ [v / 2 ^ (8 * (s - 1 - j)) % 256]
def big (v s : Nat) : List Nat := bigTo v s s
theorem big_byte (v k : Nat) : Value.int .u8 ((v / 2 ^ k % 256 : Nat) : Int) = .int .u8 ((v : Int) / (2 : Int) ^ k % (256 : Int)) := by
  congr 1
theorem grown_trans {a b c : World} {row : Option Nat} (h : a.grownBy b row) (k : b.grownBy c row) : a.grownBy c row :=
  ⟨k.os.trans h.os, k.tape.trans h.tape, k.output.trans h.output, Nat.le_trans h.size k.size, fun i hi hr => (k.block i (Nat.lt_of_lt_of_le hi h.size) hr).trans (h.block i hi hr)⟩
/-- What is owned, cell by cell. -/
theorem owned_cells {w : World} {base g n cap : Nat} {B : List Nat} (hown : w.ownsRow base 5 1 (.slice (some ⟨g, 0, none⟩) n cap) n (vals B)) : ∀ i, i < n → w.cell? ⟨g, i, none⟩ = some (.int .u8 ((B.getD i 0 : Nat) : Int)) := by
  intro i hi
  have hl : (vals B).length = n := by have := hown.1; omega
  have hlB : B.length = n := by simpa [vals] using hl
  rw [hown.cellAt i (by omega)]
  unfold vals
  rw [List.getElem?_map, List.getD_eq_getElem?_getD, List.getElem?_eq_getElem (by omega)]
  rfl
theorem big_len (v s : Nat) : ∀ j, (bigTo v s j).length = j
  | 0 => rfl
  | j + 1 => by simp [bigTo, big_len v s j]
theorem bigTo_lt (v s : Nat) : ∀ j, ∀ x ∈ bigTo v s j, x < 256
  | 0 => by simp [bigTo]
  | j + 1 => by
    intro x hx
    simp only [bigTo, List.mem_append, List.mem_singleton] at hx
    rcases hx with hx | rfl
    · exact bigTo_lt v s j x hx
    · exact Nat.mod_lt _ (by omega)
theorem cell_three_new (w : World) (a b c : Value) (t : TypeId) : ∀ j u, [a, b, c][j]? = some u → (w.alloc (.cells #[a, b, c] t)).cell? ((⟨w.heap.size, 0, none⟩ : Addr).add j) = some u := by
  intro j u hj
  match j, hj with
  | 0, hj => simp at hj; subst hj; simp [Addr.add]
  | 1, hj => simp at hj; subst hj; simp [Addr.add]
  | 2, hj => simp at hj; subst hj; simp [Addr.add]
  | j + 3, hj => simp at hj
theorem one3 (a b c : Int) : ∀ u ∈ [Value.int .u8 a, .int .u8 b, .int .u8 c], u.oneCell' = true := by
  intro u hu; simp at hu; rcases hu with rfl | rfl | rfl <;> rfl
theorem cell_four_new (w : World) (a b c d : Value) (t : TypeId) : ∀ j u, [a, b, c, d][j]? = some u → (w.alloc (.cells #[a, b, c, d] t)).cell? ((⟨w.heap.size, 0, none⟩ : Addr).add j) = some u := by
  intro j u hj
  match j, hj with
  | 0, hj => simp at hj; subst hj; simp [Addr.add]
  | 1, hj => simp at hj; subst hj; simp [Addr.add]
  | 2, hj => simp at hj; subst hj; simp [Addr.add]
  | 3, hj => simp at hj; subst hj; simp [Addr.add]
  | j + 4, hj => simp at hj
theorem one4 (a b c d : Int) : ∀ u ∈ [Value.int .u8 a, .int .u8 b, .int .u8 c, .int .u8 d], u.oneCell' = true := by
  intro u hu; simp at hu; rcases hu with rfl | rfl | rfl | rfl <;> rfl
theorem one2 (a b : Int) : ∀ u ∈ [Value.int .u8 a, .int .u8 b], u.oneCell' = true := by
  intro u hu; simp at hu; rcases hu with rfl | rfl <;> rfl
/-- The slice shows these bytes; they lie in a block below lim. -/
def Shows (lim : Nat) (w : World) (ao : Option Addr) (n cap : Nat) (B : List Nat) : Prop :=
  n = B.length ∧ n ≤ cap ∧ n ≤ 140737488355328 ∧ (∀ x ∈ B, x < 256) ∧ ∃ b off, (0 < n → ao = some ⟨b, off, none⟩) ∧ (0 < n → b < lim) ∧ ∀ i, i < n → w.cell? ⟨b, off + i, none⟩ = some (.int .u8 ((B.getD i 0 : Nat) : Int))
theorem Shows.kept {lim : Nat} {w w' : World} {row : Option Nat} {ao : Option Addr} {n cap : Nat} {B : List Nat} (h : Shows lim w ao n cap B) (hg : w.grownBy w' row) (hr : ∀ g, row = some g → lim ≤ g) : Shows lim w' ao n cap B := by
  obtain ⟨h1, h2, h3, h4, b, off, h5, h6, h7⟩ := h
  refine ⟨h1, h2, h3, h4, b, off, h5, h6, fun i hi => ?_⟩
  have hb := h6 (by omega)
  exact hg.cell (h7 i hi) (fun e => by have := hr b e.symm; omega)
theorem Shows.wide {lim lim' : Nat} {w : World} {ao : Option Addr} {n cap : Nat} {B : List Nat} (h : Shows lim w ao n cap B) (hl : lim ≤ lim') : Shows lim' w ao n cap B := by
  obtain ⟨h1, h2, h3, h4, b, off, h5, h6, h7⟩ := h
  exact ⟨h1, h2, h3, h4, b, off, h5, fun h => Nat.lt_of_lt_of_le (h6 h) hl, h7⟩
theorem Shows.world {lim : Nat} {w w' : World} {ao : Option Addr} {n cap : Nat} {B : List Nat} (h : Shows lim w ao n cap B) (he : w'.heap = w.heap) : Shows lim w' ao n cap B := by
  obtain ⟨h1, h2, h3, h4, b, off, h5, h6, h7⟩ := h
  exact ⟨h1, h2, h3, h4, b, off, h5, h6, fun i hi => (World.cell?_of_block (w := w) (w' := w') (a := ⟨b, off + i, none⟩) (by rw [he])).trans (h7 i hi)⟩
theorem below_none {w w' : World} (h : Below w.heap.size w w') : w.grownBy w' none := ⟨h.os, h.tape, h.output, h.size, fun k hk _ => h.block k hk⟩
/-- Bytes of its own. -/
def Owns (base : Nat) (w : World) (v : Value) (B : List Nat) : Prop := w.ownsRow base 5 1 v B.length (vals B) ∧ (∀ x ∈ B, x < 256) ∧ B.length ≤ 140737488355328
theorem Owns.kept {base : Nat} {w w' : World} {v : Value} {B : List Nat} {row : Option Nat} (h : Owns base w v B) (hg : w.grownBy w' row) (hne : v.ownBlock = none ∨ v.ownBlock ≠ row) : Owns base w' v B := ⟨h.1.kept hg hne, h.2⟩
theorem Owns.form {base : Nat} {w : World} {v : Value} {B : List Nat} (h : Owns base w v B) : ∃ ao cap, v = .slice ao B.length cap ∧ Shows w.heap.size w ao B.length cap B ∧ (ao = none ∧ cap = 0 ∨ ∃ g, ao = some ⟨g, 0, none⟩ ∧ base ≤ g ∧ g < w.heap.size) := by
  obtain ⟨ho, hB, hl⟩ := h
  rcases ho.2 with ⟨rfl, h0⟩ | ⟨g, cap, cur, rfl, hbg, hg, hnc, hcm, hcs, htake⟩
  · refine ⟨none, 0, by rw [h0], ⟨rfl, by omega, hl, hB, 0, 0, fun h => by omega, fun h => by omega, fun i hi => by omega⟩, .inl ⟨rfl, rfl⟩⟩
  · have hlt : g < w.heap.size := (Array.getElem?_eq_some_iff.1 hg).1
    refine ⟨some ⟨g, 0, none⟩, cap, rfl, ⟨rfl, hnc, hl, hB, g, 0, fun _ => rfl, fun _ => hlt, fun i hi => ?_⟩, .inr ⟨g, rfl, hbg, hlt⟩⟩
    rw [Nat.zero_add]
    exact owned_cells ho i hi
/-- A growing list of bytes: one more. -/
theorem Owns.snoc {base : Nat} {w w' : World} {v v' : Value} {B : List Nat} {c : Nat} (h : Owns base w v B) (hc : c < 256) (hl : B.length + 1 ≤ 140737488355328) (ho : w'.ownsRow base 5 1 v' (B.length + 1) (vals B ++ [.int .u8 (c : Int)])) : Owns base w' v' (B ++ [c]) := by
  refine ⟨?_, ?_, by simpa using hl⟩
  · rw [vals_append, vals_one, List.length_append]; exact ho
  · intro x hx
    rcases List.mem_append.1 hx with hx | hx
    · exact h.2.1 x hx
    · simp at hx; omega
theorem Owns.nil (base : Nat) (w : World) : Owns base w (.slice none 0 0) [] := ⟨World.ownsRow_nil _ _ _ _, by simp, by simp⟩
theorem grown_quiet {a b c : World} {row : Option Nat} (h : a.grownBy b row) (k : b.grownBy c none) : a.grownBy c row :=
  ⟨k.os.trans h.os, k.tape.trans h.tape, k.output.trans h.output, Nat.le_trans h.size k.size, fun i hi hr => (k.block i (Nat.lt_of_lt_of_le hi h.size) (by simp)).trans (h.block i hi hr)⟩
theorem grown_set (w : World) (g j : Nat) (u : Value) : w.grownBy (w.setCell ⟨g, j, none⟩ u) (some g) :=
  ⟨rfl, rfl, rfl, by simp, fun k _ hk => heap_setCell_other w ⟨g, j, none⟩ k u (fun e => hk (by simp [e]))⟩
theorem grown_far {a b : World} {row : Option Nat} {g j : Nat} {u : Value} (h : a.grownBy b row) (hg : a.heap.size ≤ g) : a.grownBy (b.setCell ⟨g, j, none⟩ u) row :=
  ⟨h.os, h.tape, h.output, by simpa using h.size, fun k hk hr => (heap_setCell_other b ⟨g, j, none⟩ k u (by simp; omega)).trans (h.block k hk hr)⟩
theorem grown_far_none {a b : World} {g j : Nat} {u : Value} (h : a.grownBy b none) (hg : a.heap.size ≤ g) : a.grownBy (b.setCell ⟨g, j, none⟩ u) none := grown_far h hg
theorem own_shape {w : World} {base n : Nat} {v : Value} {xs : List Value} (h : w.ownsRow base 5 1 v n xs) (hn : 0 < n) : ∃ g cap, v = .slice (some ⟨g, 0, none⟩) n cap ∧ base ≤ g := by
  rcases h.2 with ⟨_, h0⟩ | ⟨g, cap, cur, rfl, hbg, _⟩
  · omega
  · exact ⟨g, cap, rfl, hbg⟩
theorem last_cell {w : World} {base g k cap : Nat} {ys : List Value} {a b c : Value} (h : w.ownsRow base 5 1 (.slice (some ⟨g, 0, none⟩) (k + 3) cap) (k + 3) (ys ++ [a, b, c])) (hl : ys.length = k) : w.cell? ⟨g, k + 2, none⟩ = some c := by
  rw [h.cellAt (k + 2) (by omega), List.getElem?_append_right (by omega), show k + 2 - ys.length = 2 by omega]
  rfl
theorem vals_int (B : List Nat) : ∀ i, i < B.length → ∃ c : Int, (vals B)[i]? = some (.int .u8 c) := by
  intro i hi
  refine ⟨((B[i]'hi : Nat) : Int), ?_⟩
  unfold vals
  rw [List.getElem?_map, List.getElem?_eq_getElem hi]
  rfl
theorem Owns.lower {b b' : Nat} {w : World} {v : Value} {B : List Nat} (h : Owns b w v B) (hb : b' ≤ b) : Owns b' w v B := by
  refine ⟨⟨h.1.1, ?_⟩, h.2⟩
  rcases h.1.2 with h0 | ⟨g, cap, cur, hv, hbg, rest⟩
  · exact .inl h0
  · exact .inr ⟨g, cap, cur, hv, by omega, rest⟩
theorem owned_lt2 {w : World} {base g n cap : Nat} {xs : List Value} (hown : w.ownsRow base 5 1 (.slice (some ⟨g, 0, none⟩) n cap) n xs) : g < w.heap.size := by
  obtain ⟨cur, hg, _⟩ := own_block hown
  exact (Array.getElem?_eq_some_iff.1 hg).1
theorem shows_nil (w : World) (c : Nat) : Shows 0 w none 0 c [] := ⟨rfl, by omega, by omega, by simp, 0, 0, fun h => by omega, fun h => by omega, fun i hi => by omega⟩
theorem drew_grown (w : World) (q : Nat) : w.grownBy (w.drewN q) none := ⟨rfl, rfl, rfl, Nat.le_refl _, fun _ _ _ => rfl⟩
theorem Owns.drew {b : Nat} {w : World} {v : Value} {B : List Nat} (h : Owns b w v B) (q : Nat) : Owns b (w.drewN q) v B := h.kept (drew_grown w q) (by cases v.ownBlock <;> simp)
theorem Owns.quiet {b : Nat} {w w' : World} {v : Value} {B : List Nat} (h : Owns b w v B) (hg : w.grownBy w' none) : Owns b w' v B := h.kept hg (by cases v.ownBlock <;> simp)
theorem own_of_slice {a : Option Addr} {n c : Nat} {base : Nat} {w : World} {B : List Nat} (h : Owns base w (.slice a n c) B) : ∀ g, (Value.slice a n c).ownBlock = some g → base ≤ g ∧ g < w.heap.size := fun g hg => h.1.lt g hg
theorem wpList_append_nothing {P : Program} {w : World} {ops : Array Oper} {rest : List Oper} {o : Oper} {a : Act} {Q : Exit → Act → World → Prop} (hgd : o.guard = none) (s x : Operand) (t : TypeId)
    (ho : o.op = .call { callee := .builtin .append, args := #[s, x], argTypes := #[t, t] }) (v x' : Value) (hs : a.eval s = v) (hx : a.eval x = x')
    (hrun : (Builtin.append_ #[t, t] o.type #[v, x']).run P w = .ok v w) (h : wpList P ops Q rest (a.put o.dst v) w) : wpList P ops Q (o :: rest) a w := by
  refine wpList_plain hgd fun _ hK => ?_
  unfold Oper.wp execOp
  simp only [ho, resolve, invoke, builtin, Sem.run_bind, Sem.run_pure, Result.andThen_ok, List.map_toArray, List.map_cons, List.map_nil, hs, hx, hrun]
  exact hK _ _ h
/-- A fault of this layer, as it lies in memory. -/
def IsFault (w : World) (v : Value) (at_ why : Int) : Prop :=
  ∃ g, v = .iface 84 (.pointer (some ⟨g, 0, none⟩)) ∧ w.cell? ⟨g, 0, none⟩ = some (.string ⟨#[119, 105, 114, 101]⟩) ∧ w.cell? ⟨g, 1, none⟩ = some (.int .i64 at_) ∧ w.cell? ⟨g, 2, none⟩ = some (.iface 30 (.int .i64 why))
end Go.Proofs.YtldhafpeigdloaaGreatDoor
namespace Go.Proofs.YtldhafpeigdloaaGreatDoor
open Go.RowKit Crc

/-- A request as it lies. -/
structure Rq where
  (cl sq : Nat) (co : Option Addr) (cn cc : Nat) (C : List Nat)
def Rq.cells (r : Rq) : Array Value := #[.int .u64 (r.cl : Int), .int .u64 (r.sq : Int), .slice r.co r.cn r.cc]
structure Rq.Ok (lim : Nat) (w : World) (r : Rq) : Prop where
  hc : r.cl < 18446744073709551616
  hs : r.sq < 18446744073709551616
  hC : Shows lim w r.co r.cn r.cc r.C
/-- Requests as they lie, one behind the other. -/
structure Rqs (lim : Nat) (w : World) (ro : Option Addr) (rs : List Rq) (b off : Nat) : Prop where
  ad : 0 < rs.length → ro = some ⟨b, off, none⟩
  lt : 0 < rs.length → b < lim
  le : rs.length ≤ 3518437208883
  at_ : ∀ (i : Nat) (r : Rq), rs[i]? = some r → ∀ j v, r.cells[j]? = some v → w.cell? ⟨b, off + i * 3 + j, none⟩ = some v
  ok : ∀ r ∈ rs, r.Ok lim w
theorem Shows.belowL {lim : Nat} {w w' : World} {ao : Option Addr} {n cap : Nat} {B : List Nat} (h : Shows lim w ao n cap B) (hb : Below lim w w') : Shows lim w' ao n cap B := by
  obtain ⟨h1, h2, h3, h4, b, off, h5, h6, h7⟩ := h
  exact ⟨h1, h2, h3, h4, b, off, h5, h6, fun i hi => (hb.cell (p := ⟨b, _, none⟩) (h6 (by omega))).trans (h7 i hi)⟩
theorem Rq.Ok.below {lim : Nat} {w w' : World} {r : Rq} (h : r.Ok lim w) (hb : Below lim w w') : r.Ok lim w' := ⟨h.hc, h.hs, h.hC.belowL hb⟩
theorem Rqs.below {lim : Nat} {w w' : World} {ro : Option Addr} {rs : List Rq} {b off : Nat} (h : Rqs lim w ro rs b off) (hb : Below lim w w') : Rqs lim w' ro rs b off :=
  ⟨h.ad, h.lt, h.le, fun i r hr j v hv => (hb.cell (p := ⟨b, _, none⟩) (h.lt (by have := (List.getElem?_eq_some_iff.1 hr).1; omega))).trans (h.at_ i r hr j v hv), fun r hr => (h.ok r hr).below hb⟩
/-- The request at a place. -/
theorem Rqs.get {lim : Nat} {w : World} {ro : Option Addr} {rs : List Rq} {b off : Nat} (h : Rqs lim w ro rs b off) {k : Nat} (hk : k < rs.length) :
    ∃ r, rs[k]? = some r ∧ rs.drop k = r :: rs.drop (k + 1) ∧ r.Ok lim w ∧ b < lim ∧ ro = some ⟨b, off, none⟩ ∧ w.cell? ⟨b, off + k * 3, none⟩ = some (.int .u64 (r.cl : Int)) ∧ w.cell? ⟨b, off + k * 3 + 1, none⟩ = some (.int .u64 (r.sq : Int)) ∧ w.cell? ⟨b, off + k * 3 + 2, none⟩ = some (.slice r.co r.cn r.cc) := by
  have hg : rs[k]? = some rs[k] := List.getElem?_eq_getElem hk
  exact ⟨rs[k], hg, List.drop_eq_getElem_cons hk, h.ok _ (List.getElem_mem hk), h.lt (by omega), h.ad (by omega), h.at_ k _ hg 0 _ rfl, h.at_ k _ hg 1 _ rfl, h.at_ k _ hg 2 _ rfl⟩

/-- Why a request may not be; why a batch may not be, and where. -/
def Rq.why (r : Rq) : Int := if r.cl < 256 then 29 else if 700 < r.cn then 21 else 0
def bGo : List Rq → Nat → Nat × Int
  | [], _ => (0, 0)
  | r :: t, i => if r.why = 0 then bGo t (i + 1) else (2 + i, r.why)
def bFault (stamp : Nat) (rs : List Rq) : Nat × Int := if 1099511627776 < stamp then (0, 29) else if 8 < rs.length then (1, 21) else bGo rs 0

theorem below_alloc1 (w : World) (o : Obj) : Below w.heap.size w (w.alloc o) := (Below.refl _ w).alloc (Nat.le_refl _) o
end Go.Proofs.YtldhafpeigdloaaGreatDoor
namespace Go.Proofs.YtldhafpeigdloaaGreatDoor
open Go.RowKit Crc

set_option maxRecDepth 10000 in
set_option maxHeartbeats 1600000 in
theorem batchFault_any {w : World} (stamp : Nat) {ro : Option Addr} {rs : List Rq} {b off : Nat} (rc : Nat) (h : Rqs w.heap.size w ro rs b off) :
    Calls Tryz.prog 76 #[.agg #[.int .u64 (stamp : Int), .slice ro rs.length rc]] w fun e w' => e = .returned (.tuple #[.int .i64 ((bFault stamp rs).1 : Int), .int .i64 (bFault stamp rs).2]) ∧ Below w.heap.size w w' := by
  have HR := hide h
  have hle := h.le
  have HB := hide (below_alloc1 w)
  clear h
  by_cases h1 : 1099511627776 < stamp
  · have HF : Hid (bFault stamp rs = (0, 29)) := by show _ = _; unfold bFault; rw [if_pos h1]
    have d1 : decide ((1099511627776 : Int) < (stamp : Int)) = true := by simp; omega
    rw [HF.out]
    generalize rs.length = n at *
    go_enter Tryz.func76, Tryz.ntmps76
    go_wp2
    go_step3
    go_wp2
    rw [Exit.noGoto_ret]
    go_ret2
    exact ⟨rfl, HB.out _⟩
  · have d1 : decide ((1099511627776 : Int) < (stamp : Int)) = false := by simp; omega
    by_cases h2 : 8 < rs.length
    · have HF : Hid (bFault stamp rs = (1, 21)) := by show _ = _; unfold bFault; rw [if_neg h1, if_pos h2]
      have d2 : decide ((8 : Int) < (rs.length : Int)) = true := by simp; omega
      rw [HF.out]
      generalize rs.length = n at *
      go_enter Tryz.func76, Tryz.ntmps76
      go_wp2
      go_step3
      go_wp2
      rw [Exit.noGoto_ret]
      go_ret2
      exact ⟨rfl, HB.out _⟩
    · have HF : Hid (bFault stamp rs = bGo rs 0) := by show _ = _; unfold bFault; rw [if_neg h1, if_neg h2]
      have d2 : decide ((8 : Int) < (rs.length : Int)) = false := by simp; omega
      rw [HF.out]
      go_enter Tryz.func76, Tryz.ntmps76
      go_wp2
      go_step3
      go_wp2
      go_step3
      go_wp2
      go_loopw [4, 5, 20] (fun x y i wr => ∃ k : Nat, k ≤ rs.length ∧ x = .int .i64 0 ∧ y = .int .i64 0 ∧ i = .int .i64 k ∧ Hid (bGo rs 0 = bGo (rs.drop k) k) ∧ Hid (Below w.heap.size w wr)) (fun _ _ i _ => rs.length - (intOf i).toNat)
      case atStart => exact ⟨0, by omega, rfl, rfl, rfl, rfl, HB.out _⟩
      case round =>
        obtain ⟨k, hk, rfl, rfl, rfl, HG, HW⟩ := hrel
        by_cases hlt : k < rs.length
        · obtain ⟨r, hr, hd, hok, hbl, rfl, c0, c1, c2⟩ := (HR.out.below HW.out).get hlt
          rw [hd] at HG
          obtain ⟨cl, sq, co, cn, cc, C⟩ := r
          simp only at c0 c1 c2
          have HWA : Hid (∀ o, Below w.heap.size w (wr.alloc o)) := fun o => HW.out.trans ((below_alloc1 wr o).mono HW.out.size)
          by_cases g1 : cl < 256
          · have g1' : decide ((cl : Int) < 256) = true := by simp; omega
            have HG2 : Hid (bGo rs 0 = (2 + k, 29)) := by rw [HG.out]; show _ = _; simp [bGo, Rq.why, g1]
            clear hr hd hok
            go_wp2
            rw [Exit.noGoto_ret]
            go_ret2
            exact ⟨by rw [HG2.out]; simp, HWA.out _⟩
          · have g1' : decide ((cl : Int) < 256) = false := by simp; omega
            by_cases g2 : 700 < cn
            · have g2' : decide ((700 : Int) < (cn : Int)) = true := by simp; omega
              have HG2 : Hid (bGo rs 0 = (2 + k, 21)) := by rw [HG.out]; show _ = _; simp [bGo, Rq.why, g1, g2]
              clear hr hd hok
              go_wp2
              rw [Exit.noGoto_ret]
              go_ret2
              exact ⟨by rw [HG2.out]; simp, HWA.out _⟩
            · have g2' : decide ((700 : Int) < (cn : Int)) = false := by simp; omega
              have HG2 : Hid (bGo rs 0 = bGo (rs.drop (k + 1)) (k + 1)) := by rw [HG.out]; show _ = _; simp [bGo, Rq.why, g1, g2]
              clear hr hd hok
              go_wp2
              go_roundw
              case rel => exact ⟨k + 1, by omega, rfl, rfl, by go_num, HG2, HWA.out _⟩
              case measure => simp [intOf]; omega
        · obtain rfl : k = rs.length := by omega
          have HG2 : Hid (bGo rs 0 = (0, 0)) := by rw [HG.out]; show _ = _; simp [bGo]
          go_wp2
          rw [Exit.noGoto_ret]
          go_ret2
          exact ⟨by rw [HG2.out]; rfl, HW.out⟩
end Go.Proofs.YtldhafpeigdloaaGreatDoor
