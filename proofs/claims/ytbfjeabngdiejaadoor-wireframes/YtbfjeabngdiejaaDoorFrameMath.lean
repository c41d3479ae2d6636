import Derived.Test.YtbfjeabngdiejaaDoorFrame
namespace Go.Proofs.YtbfjeabngdiejaaDoor
open Go.RowKit Crc

theorem big4 (v : Nat) : big v 4 = [v / 16777216 % 256, v / 65536 % 256, v / 256 % 256, v % 256] := by
  simp [big, bigTo]
theorem headB_eq (k : Nat) (B : List Nat) : headB k B = 81 :: 77 :: 1 :: k :: B.length / 16777216 % 256 :: B.length / 65536 % 256 :: B.length / 256 % 256 :: B.length % 256 :: B := by
  unfold headB; rw [big4]; rfl
theorem sum_lt (B : List Nat) (hB : ∀ x ∈ B, x < 256) : Crc.sum B < 4294967296 := xor_lt32 _ _ (sumFrom_lt _ _ (by omega) hB) (by omega)
theorem frameB_len (k : Nat) (B : List Nat) : (frameB k B).length = 12 + B.length := by
  unfold frameB; rw [List.length_append, headB_len]; simp [low4]; omega
theorem frameB_lt (k : Nat) (B : List Nat) (hk : k < 256) (hB : ∀ x ∈ B, x < 256) : ∀ x ∈ frameB k B, x < 256 := by
  intro x hx
  have hS := sum_lt _ (headB_lt k B hk hB)
  unfold frameB at hx
  rcases List.mem_append.1 hx with h | h
  · exact headB_lt k B hk hB x h
  · simp only [low4, List.mem_cons, List.not_mem_nil, or_false] at h
    rcases h with rfl | rfl | rfl | rfl <;> omega
theorem frameB_eq (k : Nat) (B : List Nat) : frameB k B = 81 :: 77 :: 1 :: k :: B.length / 16777216 % 256 :: B.length / 65536 % 256 :: B.length / 256 % 256 :: B.length % 256 :: (B ++ low4 (Crc.sum (headB k B))) := by
  unfold frameB; rw [headB_eq]; rfl
theorem frameB_kind (k : Nat) (B : List Nat) : (frameB k B).getD 3 0 = k := by rw [frameB_eq]; rfl
theorem frameB_body (k : Nat) (B : List Nat) : ((frameB k B).drop 8).take B.length = B := by
  rw [frameB_eq]
  simp
theorem frameB_head (k : Nat) (B : List Nat) : (frameB k B).take (8 + B.length) = headB k B := by
  unfold frameB
  rw [← headB_len k B, List.take_left']
  rfl
theorem frameB_low (k : Nat) (B : List Nat) (hk : k < 256) (hB : ∀ x ∈ B, x < 256) : lowOf (frameB k B) = Crc.sum (headB k B) := by
  have hS := sum_lt _ (headB_lt k B hk hB)
  have hl := headB_len k B
  have g : ∀ i, (frameB k B).getD (8 + B.length + i) 0 = (low4 (Crc.sum (headB k B))).getD i 0 := by
    intro i
    unfold frameB
    rw [List.getD_eq_getElem?_getD, List.getElem?_append_right (by omega), ← List.getD_eq_getElem?_getD, show 8 + B.length + i - (headB k B).length = i by omega]
  unfold lowOf
  rw [frameB_len, show 12 + B.length - 4 = 8 + B.length + 0 by omega, g 0]
  simp only [Nat.add_zero]
  rw [g 1, g 2, g 3]
  generalize Crc.sum (headB k B) = S at *
  simp only [low4, lo4, List.getD_cons_zero, List.getD_cons_succ]
  omega
theorem frame_good (k : Nat) (B : List Nat) (hk : k < 256) (hB : ∀ x ∈ B, x < 256) (hl : B.length ≤ 65495) : ff (frameB k B) = (0, 0) := by
  have h2 : hi ((frameB k B).take 2) = 20813 := by rw [frameB_eq]; rfl
  have h3 : (frameB k B).getD 2 0 = 1 := by rw [frameB_eq]; rfl
  have h4 : hi (((frameB k B).drop 4).take 4) = B.length := by
    rw [frameB_eq]
    simp only [List.drop_succ_cons, List.drop_zero, List.take_succ_cons, List.take_zero, hi, List.foldl_cons, List.foldl_nil]
    omega
  unfold ff
  rw [frameB_len, h2, h3, h4, if_neg (by omega), if_neg (by omega), if_neg (by simp), if_neg (by simp), if_neg (by omega), if_neg (by omega),
    show 12 + B.length - 4 = 8 + B.length by omega, frameB_head, frameB_low k B hk hB, if_neg (by simp)]
end Go.Proofs.YtbfjeabngdiejaaDoor
