import Derived.Test.YthfiafjhnidlkaaBMj
import Derived.Test.YthfiafjhnidlkaaBSd
namespace Go.Proofs.Ythfiafjhnidlkaa
open Go.RowKit

theorem sorted_unique : ∀ {l1 l2 : List Nat}, l1.Pairwise (· ≤ ·) → l2.Pairwise (· ≤ ·) → l1.Perm l2 → l1 = l2
  | [], l2, _, _, h => (List.Perm.nil_eq h)
  | a :: t, [], _, _, h => by have := h.length_eq; simp at this
  | a :: t, b :: s, h1, h2, h => by
    have ha : a ∈ b :: s := h.subset (by simp)
    have hb : b ∈ a :: t := h.symm.subset (by simp)
    have hab : a = b := by
      have q1 := (List.pairwise_cons.1 h1).1
      have q2 := (List.pairwise_cons.1 h2).1
      rcases List.mem_cons.1 ha with e | e
      · exact e
      · rcases List.mem_cons.1 hb with e' | e'
        · exact e'.symm
        · have := q1 b e'; have := q2 a e; omega
    subst hab
    rw [sorted_unique (List.pairwise_cons.1 h1).2 (List.pairwise_cons.1 h2).2 (List.Perm.cons_inv h)]
/-- Of sorted numbers, how many are at m or above, and how many above it, where m is the k-th from the end. -/
theorem kth_counts {ys : List Nat} {n k m : Nat} (hs : ys.Pairwise (· ≤ ·)) (hn : ys.length = n) (hk0 : 1 ≤ k) (hkn : k ≤ n) (hm : ys[n - k]? = some m) :
    k ≤ ys.countP (fun y => decide (m ≤ y)) ∧ ys.countP (fun y => decide (m < y)) < k := by
  obtain ⟨hlt, he⟩ := List.getElem?_eq_some_iff.1 hm
  have e : ys = ys.take (n - k) ++ m :: ys.drop (n - k + 1) := by
    have h1 := List.take_append_drop (n - k) ys
    rw [List.drop_eq_getElem_cons hlt, he] at h1
    exact h1.symm
  have hs' := hs
  rw [e, List.pairwise_append] at hs'
  have hC := (List.pairwise_cons.1 hs'.2.1).1
  have hA : ∀ a ∈ ys.take (n - k), a ≤ m := fun a ha => hs'.2.2 a ha m (by simp)
  have hl : (ys.drop (n - k + 1)).length = k - 1 := by rw [List.length_drop, hn]; omega
  rw [e]
  generalize ys.take (n - k) = A at *
  generalize ys.drop (n - k + 1) = C at *
  constructor
  · rw [List.countP_append, List.countP_cons]
    have h1 : C.countP (fun y => decide (m ≤ y)) = C.length := List.countP_eq_length.2 (fun y hy => decide_eq_true (hC y hy))
    simp [h1, hl]
    omega
  · rw [List.countP_append, List.countP_cons]
    have h1 : A.countP (fun y => decide (m < y)) = 0 := List.countP_eq_zero.2 (fun y hy => by have := hA y hy; simp; omega)
    have h2 : C.countP (fun y => decide (m < y)) ≤ C.length := List.countP_le_length
    simp [h1]
    omega
theorem memU_count {S : Nat} {P : Nat → Bool} {xs : List Nat} : ∀ {k : Nat}, k ≤ xs.length → (∀ i x, i < k → xs[i]? = some x → S.testBit i = P x) → (memU S k).length = (xs.take k).countP P
  | 0, _, _ => by simp [memU]
  | k + 1, hk, h => by
    obtain ⟨x, hx⟩ : ∃ x, xs[k]? = some x := ⟨_, List.getElem?_eq_getElem (by omega)⟩
    have ih := memU_count (S := S) (P := P) (xs := xs) (k := k) (by omega) (fun i x hi hx => h i x (by omega) hx)
    rw [memU_succ, List.length_append, ih, List.take_add_one, hx, List.countP_append, h k x (by omega) hx]
    cases hP : P x <;> simp [hP]
/-- A set that holds the places of some numbers. -/
structure PlaceSet (P : Nat → Bool) (xs : List Nat) (k : Nat) (S : Nat) : Prop where
  lt : S < 4294967296
  bit : ∀ i x, i < k → xs[i]? = some x → S.testBit i = P x
  no : ∀ i, k ≤ i → S.testBit i = false
theorem placeSet_zero (P : Nat → Bool) (xs : List Nat) : PlaceSet P xs 0 0 := ⟨by omega, fun i x hi => absurd hi (by omega), fun i _ => by simp⟩
theorem alone_bit {k : Nat} (hk : k < 32) : aloneB (k : Int) = 2 ^ k := by
  unfold aloneB
  simp
  omega
theorem PlaceSet.put {P : Nat → Bool} {xs : List Nat} {k S x : Nat} (h : PlaceSet P xs k S) (hk : k < 32) (hx : xs[k]? = some x) (hP : P x = true) : PlaceSet P xs (k + 1) (withB S (k : Int)) := by
  refine ⟨withB_lt S _ h.lt, fun i y hi hy => ?_, fun i hi => ?_⟩
  · unfold withB
    rw [alone_bit hk, Nat.testBit_or, Nat.testBit_two_pow]
    by_cases e : k = i
    · subst e
      rw [hx] at hy
      cases hy
      simp [hP]
    · rw [h.bit i y (by omega) hy]
      simp [e]
  · unfold withB
    rw [alone_bit hk, Nat.testBit_or, Nat.testBit_two_pow, h.no i (by omega)]
    simp
    omega
theorem PlaceSet.skip {P : Nat → Bool} {xs : List Nat} {k S x : Nat} (h : PlaceSet P xs k S) (hx : xs[k]? = some x) (hP : P x = false) : PlaceSet P xs (k + 1) S := by
  refine ⟨h.lt, fun i y hi hy => ?_, fun i hi => h.no i (by omega)⟩
  by_cases e : i = k
  · subst e
    rw [hx] at hy
    cases hy
    rw [h.no i (Nat.le_refl _), hP]
  · exact h.bit i y (by omega) hy
theorem PlaceSet.maj {P : Nat → Bool} {xs : List Nat} {S : Nat} {c : Cf} (hk : c.Ok) (h : PlaceSet P xs xs.length S) (hn : (xs.length : Int) = 2 * c.f + 1) : c.maj S = decide (((xs.countP P : Nat) : Int) ≥ c.f + 1) := by
  unfold Cf.maj
  rw [maj_len hk S xs.length hn.symm, memU_count (Nat.le_refl _) h.bit, List.take_length]
end Go.Proofs.Ythfiafjhnidlkaa
