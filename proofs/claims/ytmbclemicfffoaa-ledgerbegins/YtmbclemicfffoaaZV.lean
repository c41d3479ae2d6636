import Derived.Test.YtmbclemicfffoaaZM
namespace Go.Proofs.Ytmbclemicfffoaa

/-- What lies ahead of a is not above what lies in [a, b). -/
def PreR (a b : Nat) (D : Nat → Nat) : Prop := a = 0 ∨ ∀ k, a ≤ k → k < b → D (a - 1) ≤ D k
theorem PreR.perm {a b : Nat} {D D' : Nat → Nat} (h : PreR a b D) (hp : PermR a b D D') : PreR a b D' := by
  rcases h with h | h
  · exact .inl h
  · by_cases e : a = 0
    · exact .inl e
    · refine .inr fun k h1 h2 => ?_
      rw [hp.out (i := a - 1) (.inl (by omega))]
      exact hp.all (P := fun v => D (a - 1) ≤ v) h k h1 h2
theorem PreR.less {a b b' : Nat} {D : Nat → Nat} (h : PreR a b D) (hb : b' ≤ b) : PreR a b' D := by
  rcases h with h | h
  · exact .inl h
  · exact .inr fun k h1 h2 => h k h1 (by omega)
/-- The state of pdqsort's loop: once [p, q) is in order, all of [a, b) is. -/
structure PdR (a b p q : Nat) (D : Nat → Nat) : Prop where
  ap : a ≤ p
  pq : p ≤ q
  qb : q ≤ b
  pre : PreR p q D
  fin : ∀ D', PermR p q D D' → SortR p q D' → SortR a b D'
theorem PdR.start {a b : Nat} {D : Nat → Nat} (hab : a ≤ b) (h : PreR a b D) : PdR a b a b D := ⟨Nat.le_refl _, hab, Nat.le_refl _, h, fun _ _ h => h⟩
theorem PdR.perm {a b p q : Nat} {D D' : Nat → Nat} (h : PdR a b p q D) (hp : PermR p q D D') : PdR a b p q D' := ⟨h.ap, h.pq, h.qb, h.pre.perm hp, fun D2 h1 h2 => h.fin D2 (hp.trans h1) h2⟩
/-- Behind partitionEqual. -/
theorem PdR.eq {a b p q m v : Nat} {D D' : Nat → Nat} (h : PdR a b p q D) (hp : PermR p q D D') (h1 : p < m) (h2 : m ≤ q) (hl : ∀ k, p ≤ k → k < m → D' k = v) (hr : ∀ k, m ≤ k → k < q → v < D' k) : PdR a b m q D' := by
  refine ⟨by have := h.ap; omega, h2, h.qb, .inr fun k k1 k2 => ?_, fun D2 g1 g2 => ?_⟩
  · rw [hl (m - 1) (by omega) (by omega)]
    exact Nat.le_of_lt (hr k k1 k2)
  · refine h.fin D2 (hp.trans (g1.wide (Nat.le_of_lt h1) (Nat.le_refl _))) fun i j i1 i2 i3 => ?_
    have el : ∀ k, p ≤ k → k < m → D2 k = v := fun k k1 k2 => by rw [g1.out (.inl k2)]; exact hl k k1 k2
    have er : ∀ k, m ≤ k → k < q → v < D2 k := g1.all (P := fun x => v < x) hr
    by_cases e1 : j < m
    · rw [el i i1 (by omega), el j (by omega) e1]; exact Nat.le_refl _
    · by_cases e2 : i < m
      · rw [el i i1 e2]
        exact Nat.le_of_lt (er j (by omega) i3)
      · exact g2 i j (by omega) i2 i3
/-- Behind partition, and the shorter side on the left in order. -/
theorem PdR.left {a b p q m : Nat} {D D' D2 : Nat → Nat} (h : PdR a b p q D) (hp : PermR p q D D') (h1 : p ≤ m) (h2 : m < q) (hl : ∀ k, p ≤ k → k < m → D' k < D' m) (hr : ∀ k, m < k → k < q → D' m ≤ D' k) (hp2 : PermR p m D' D2) (hs : SortR p m D2) : PdR a b (m + 1) q D2 := by
  have em : D2 m = D' m := hp2.out (.inr (Nat.le_refl _))
  have el : ∀ k, p ≤ k → k < m → D2 k < D' m := hp2.all (P := fun x => x < D' m) hl
  have er : ∀ k, m < k → k < q → D' m ≤ D2 k := fun k k1 k2 => by rw [hp2.out (.inr (by omega))]; exact hr k k1 k2
  refine ⟨by have := h.ap; omega, h2, h.qb, .inr fun k k1 k2 => ?_, fun D3 g1 g2 => ?_⟩
  · rw [Nat.add_sub_cancel, em]
    exact er k (by omega) k2
  · refine h.fin D3 ((hp.trans (hp2.wide (Nat.le_refl _) (Nat.le_of_lt h2))).trans (g1.wide (by omega) (Nat.le_refl _))) ?_
    have e3 : ∀ k, k < m + 1 → D3 k = D2 k := fun k hk => g1.out (.inl hk)
    refine SortR.join (m := m) (hs.same fun k _ k2 => e3 k (by omega)) g2 (fun k k1 k2 => ?_) fun k k1 k2 => ?_
    · rw [e3 k (by omega), e3 m (by omega), em]
      exact Nat.le_of_lt (el k k1 k2)
    · rw [e3 m (by omega), em]
      exact g1.all (P := fun x => D' m ≤ x) (fun i i1 i2 => er i (by omega) i2) k (by omega) k2
/-- .. on the right. -/
theorem PdR.right {a b p q m : Nat} {D D' D2 : Nat → Nat} (h : PdR a b p q D) (hp : PermR p q D D') (h1 : p ≤ m) (h2 : m < q) (hl : ∀ k, p ≤ k → k < m → D' k < D' m) (hr : ∀ k, m < k → k < q → D' m ≤ D' k) (hp2 : PermR (m + 1) q D' D2) (hs : SortR (m + 1) q D2) : PdR a b p m D2 := by
  have em : ∀ k, k ≤ m → D2 k = D' k := fun k hk => hp2.out (.inl (by omega))
  have er : ∀ k, m + 1 ≤ k → k < q → D' m ≤ D2 k := hp2.all (P := fun x => D' m ≤ x) fun i i1 i2 => hr i (by omega) i2
  have hpp : PermR p q D D2 := hp.trans (hp2.wide (by omega) (Nat.le_refl _))
  refine ⟨h.ap, h1, by have := h.qb; omega, (h.pre.perm hpp).less (by omega), fun D3 g1 g2 => ?_⟩
  refine h.fin D3 (hpp.trans (g1.wide (Nat.le_refl _) (Nat.le_of_lt h2))) ?_
  have e3 : ∀ k, m ≤ k → D3 k = D2 k := fun k hk => g1.out (.inr hk)
  refine SortR.join (m := m) g2 (hs.same fun k k1 _ => e3 k (by omega)) (fun k k1 k2 => ?_) fun k k1 k2 => ?_
  · rw [e3 m (Nat.le_refl _), em m (Nat.le_refl _)]
    exact g1.all (P := fun x => x ≤ D' m) (fun i i1 i2 => by rw [em i (by omega)]; exact Nat.le_of_lt (hl i i1 i2)) k k1 k2
  · rw [e3 m (Nat.le_refl _), em m (Nat.le_refl _), e3 k (by omega)]
    exact er k (by omega) k2
end Go.Proofs.Ytmbclemicfffoaa
