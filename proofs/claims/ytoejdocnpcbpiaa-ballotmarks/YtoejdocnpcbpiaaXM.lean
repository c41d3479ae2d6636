import Derived.Test.YtoejdocnpcbpiaaPBase
namespace Go.Proofs.Ytoejdocnpcbpiaa
open Go.RowKit

theorem sorted_unique : ∀ {l1 l2 : List Nat}, l1.Pairwise (· ≤ ·) → l2.Pairwise (· ≤ ·) → l1.Perm l2 → l1 = l2
  | [], l2, _, _, h => (List.Perm.nil_eq h)
  | a :: t, [], _, _, h => by have := h.length_eq; simp at this
  | a :: t, b :: s, h1, h2, h => by
    have ha : a ∈ b :: s := h.subset (by simp)
    have hb : b ∈ a :: t := h.symm.subset (by simp)
    have hab : a = b := by
      have q1 := (List.pairwise_cons.1 h1).1
      have q2 := (List.pairwise_cons.1 h2).1
      rcases List.mem_cons.1 ha with e | e
      · exact e
      · rcases List.mem_cons.1 hb with e' | e'
        · exact e'.symm
        · have := q1 b e'; have := q2 a e; omega
    subst hab
    rw [sorted_unique (List.pairwise_cons.1 h1).2 (List.pairwise_cons.1 h2).2 (List.Perm.cons_inv h)]
/-- Of sorted numbers, how many are at m or above, and how many above it, where m is the k-th from the end. -/
theorem kth_counts {ys : List Nat} {n k m : Nat} (hs : ys.Pairwise (· ≤ ·)) (hn : ys.length = n) (hk0 : 1 ≤ k) (hkn : k ≤ n) (hm : ys[n - k]? = some m) :
    k ≤ ys.countP (fun y => decide (m ≤ y)) ∧ ys.countP (fun y => decide (m < y)) < k := by
  obtain ⟨hlt, he⟩ := List.getElem?_eq_some_iff.1 hm
  have e : ys = ys.take (n - k) ++ m :: ys.drop (n - k + 1) := by
    have h1 := List.take_append_drop (n - k) ys
    rw [List.drop_eq_getElem_cons hlt, he] at h1
    exact h1.symm
  have hs' := hs
  rw [e, List.pairwise_append] at hs'
  have hC := (List.pairwise_cons.1 hs'.2.1).1
  have hA : ∀ a ∈ ys.take (n - k), a ≤ m := fun a ha => hs'.2.2 a ha m (by simp)
  have hl : (ys.drop (n - k + 1)).length = k - 1 := by rw [List.length_drop, hn]; omega
  rw [e]
  generalize ys.take (n - k) = A at *
  generalize ys.drop (n - k + 1) = C at *
  constructor
  · rw [List.countP_append, List.countP_cons]
    have h1 : C.countP (fun y => decide (m ≤ y)) = C.length := List.countP_eq_length.2 (fun y hy => decide_eq_true (hC y hy))
    simp [h1, hl]
    omega
  · rw [List.countP_append, List.countP_cons]
    have h1 : A.countP (fun y => decide (m < y)) = 0 := List.countP_eq_zero.2 (fun y hy => by have := hA y hy; simp; omega)
    have h2 : C.countP (fun y => decide (m < y)) ≤ C.length := List.countP_le_length
    simp [h1]
    omega
end Go.Proofs.Ytoejdocnpcbpiaa
