import Derived.Test.YtmbclemicfffoaaPBase
namespace Go.Proofs.Ytmbclemicfffoaa

/-- Two places change their numbers. -/
def swp (D : Nat → Nat) (i j : Nat) : Nat → Nat := fun k => if k = i then D j else if k = j then D i else D k
theorem swp_l (D : Nat → Nat) (i j : Nat) : swp D i j i = D j := by simp [swp]
theorem swp_r (D : Nat → Nat) (i j : Nat) : swp D i j j = D i := by
  unfold swp
  split
  · next h => rw [h]
  · simp
theorem swp_o (D : Nat → Nat) {i j k : Nat} (h1 : k ≠ i) (h2 : k ≠ j) : swp D i j k = D k := by simp [swp, h1, h2]
/-- Within [a, b) the one is the other in another order; else they are the same. -/
def PermR (a b : Nat) (D D' : Nat → Nat) : Prop := ∃ s t : Nat → Nat, (∀ i, t (s i) = i) ∧ (∀ i, s (t i) = i) ∧ (∀ i, i < a ∨ b ≤ i → s i = i) ∧ ∀ i, D' i = D (s i)
theorem PermR.refl (a b : Nat) (D : Nat → Nat) : PermR a b D D := ⟨id, id, fun _ => rfl, fun _ => rfl, fun _ _ => rfl, fun _ => rfl⟩
theorem PermR.trans {a b : Nat} {D D' D'' : Nat → Nat} (h : PermR a b D D') (h' : PermR a b D' D'') : PermR a b D D'' := by
  obtain ⟨s, t, h1, h2, h3, h4⟩ := h
  obtain ⟨s', t', k1, k2, k3, k4⟩ := h'
  refine ⟨fun i => s (s' i), fun i => t' (t i), fun i => ?_, fun i => ?_, fun i hi => ?_, fun i => ?_⟩
  · show t' (t (s (s' i))) = i
    rw [h1, k1]
  · show s (s' (t' (t i))) = i
    rw [k2, h2]
  · show s (s' i) = i
    rw [k3 i hi, h3 i hi]
  · rw [k4, h4]
theorem PermR.wide {a b a' b' : Nat} {D D' : Nat → Nat} (h : PermR a b D D') (ha : a' ≤ a) (hb : b ≤ b') : PermR a' b' D D' := by
  obtain ⟨s, t, h1, h2, h3, h4⟩ := h
  exact ⟨s, t, h1, h2, fun i hi => h3 i (by omega), h4⟩
theorem PermR.swp {a b : Nat} (D : Nat → Nat) {i j : Nat} (h1 : a ≤ i) (h2 : i < b) (h3 : a ≤ j) (h4 : j < b) : PermR a b D (swp D i j) := by
  have inv : ∀ k, (fun k => if k = i then j else if k = j then i else k) ((fun k => if k = i then j else if k = j then i else k) k) = k := fun k => by
    by_cases e1 : k = i
    · subst e1
      by_cases e2 : j = k
      · simp [e2]
      · simp [e2]
    · by_cases e2 : k = j
      · subst e2; simp [e1]
      · simp [e1, e2]
  refine ⟨fun k => if k = i then j else if k = j then i else k, fun k => if k = i then j else if k = j then i else k, inv, inv, fun k hk => ?_, fun k => ?_⟩
  · have e1 : k ≠ i := by omega
    have e2 : k ≠ j := by omega
    simp [e1, e2]
  · unfold Go.Proofs.Ytmbclemicfffoaa.swp
    by_cases e1 : k = i
    · simp [e1]
    · by_cases e2 : k = j
      · subst e2; simp [e1]
      · simp [e1, e2]
theorem PermR.out {a b : Nat} {D D' : Nat → Nat} (h : PermR a b D D') {i : Nat} (hi : i < a ∨ b ≤ i) : D' i = D i := by
  obtain ⟨s, t, h1, h2, h3, h4⟩ := h
  rw [h4, h3 i hi]
theorem PermR.at_ {a b : Nat} {D D' : Nat → Nat} (h : PermR a b D D') {i : Nat} (h1 : a ≤ i) (h2 : i < b) : ∃ j, a ≤ j ∧ j < b ∧ D' i = D j := by
  obtain ⟨s, t, k1, k2, k3, k4⟩ := h
  refine ⟨s i, ?_, ?_, k4 i⟩
  · by_cases e : s i < a
    · have h3 := k3 (s i) (.inl e)
      have h4 := congrArg t h3
      rw [k1, k1] at h4
      omega
    · omega
  · by_cases e : b ≤ s i
    · have h3 := k3 (s i) (.inr e)
      have h4 := congrArg t h3
      rw [k1, k1] at h4
      omega
    · omega
theorem PermR.all {a b : Nat} {D D' : Nat → Nat} (h : PermR a b D D') {P : Nat → Prop} (hP : ∀ i, a ≤ i → i < b → P (D i)) : ∀ i, a ≤ i → i < b → P (D' i) := fun i h1 h2 => by
  obtain ⟨j, h3, h4, h5⟩ := h.at_ h1 h2
  rw [h5]
  exact hP j h3 h4
theorem PermR.perm {a b n : Nat} {D D' : Nat → Nat} (h : PermR a b D D') (hb : b ≤ n) : ((List.range n).map D').Perm ((List.range n).map D) := by
  have h0 := h
  obtain ⟨s, t, k1, k2, k3, k4⟩ := h
  have e : (List.range n).map D' = ((List.range n).map s).map D := by
    rw [List.map_map]
    exact List.map_congr_left fun i _ => k4 i
  rw [e]
  refine List.Perm.map D ?_
  have inj : ∀ i j, s i = s j → i = j := fun i j hij => by rw [← k1 i, hij, k1 j]
  have nd : ((List.range n).map s).Nodup := List.Pairwise.map s (fun i j hij hs => hij (inj i j hs)) (List.nodup_range)
  have lt : ∀ (f g : Nat → Nat), (∀ i, g (f i) = i) → (∀ i, i < a ∨ b ≤ i → f i = i) → ∀ i, i < n → f i < n := fun f g h1 h2 i hi => by
    by_cases e : f i < n
    · exact e
    · have h3 := h2 (f i) (.inr (by omega))
      have h4 := congrArg g h3
      rw [h1, h1] at h4
      omega
  have tf : ∀ i, i < a ∨ b ≤ i → t i = i := fun i hi => by
    have h3 := k3 i hi
    have h4 := congrArg t h3
    rw [k1] at h4
    exact h4.symm
  refine (List.perm_ext_iff_of_nodup nd List.nodup_range).2 fun x => ?_
  simp only [List.mem_map, List.mem_range]
  constructor
  · rintro ⟨i, hi, rfl⟩
    exact lt s t k1 k3 i hi
  · intro hx
    exact ⟨t x, lt t s k2 tf x hx, k2 x⟩
/-- [a, b) is in order. -/
def SortR (a b : Nat) (D : Nat → Nat) : Prop := ∀ i j, a ≤ i → i ≤ j → j < b → D i ≤ D j
theorem SortR.none {a b : Nat} (D : Nat → Nat) (h : b ≤ a + 1) : SortR a b D := fun i j h1 h2 h3 => by
  have : i = j := by omega
  rw [this]; exact Nat.le_refl _
theorem SortR.same {a b : Nat} {D D' : Nat → Nat} (h : SortR a b D) (e : ∀ i, a ≤ i → i < b → D' i = D i) : SortR a b D' := fun i j h1 h2 h3 => by
  rw [e i h1 (by omega), e j (by omega) h3]
  exact h i j h1 h2 h3
theorem SortR.step {a b : Nat} {D : Nat → Nat} (h : ∀ i, a ≤ i → i + 1 < b → D i ≤ D (i + 1)) : SortR a b D := fun i j h1 h2 h3 => by
  obtain ⟨d, rfl⟩ : ∃ d, j = i + d := ⟨j - i, by omega⟩
  clear h2
  induction d with
  | zero => exact Nat.le_refl _
  | succ d ih => exact Nat.le_trans (ih (by omega)) (h (i + d) (by omega) (by omega))
/-- Two ordered stretches around a number make one. -/
theorem SortR.join {a b m : Nat} {D : Nat → Nat} (h1 : SortR a m D) (h2 : SortR (m + 1) b D) (hl : ∀ i, a ≤ i → i < m → D i ≤ D m) (hr : ∀ i, m < i → i < b → D m ≤ D i) : SortR a b D := fun i j k1 k2 k3 => by
  by_cases e1 : j < m
  · exact h1 i j k1 k2 e1
  · by_cases e2 : m < i
    · exact h2 i j (by omega) k2 k3
    · have A : D i ≤ D m := by
        by_cases e : i = m
        · rw [e]; exact Nat.le_refl _
        · exact hl i k1 (by omega)
      have B : D m ≤ D j := by
        by_cases e : j = m
        · rw [e]; exact Nat.le_refl _
        · exact hr j (by omega) k3
      exact Nat.le_trans A B
theorem SortR.list {n : Nat} {D : Nat → Nat} (h : SortR 0 n D) : ((List.range n).map D).Pairwise (· ≤ ·) := by
  rw [List.pairwise_map]
  refine List.Pairwise.imp_of_mem ?_ List.pairwise_lt_range
  intro i j hi hj hij
  exact h i j (by omega) (by omega) (List.mem_range.1 hj)
/-- Every child from lo on is at most its parent. -/
def Heap (lo hi first : Nat) (D : Nat → Nat) : Prop := ∀ c, 1 ≤ c → c < hi → lo ≤ (c - 1) / 2 → D (first + c) ≤ D (first + (c - 1) / 2)
/-- .. but for the children of r, which are at most r's parent. -/
def HeapBut (lo hi first r : Nat) (D : Nat → Nat) : Prop := (∀ c, 1 ≤ c → c < hi → lo ≤ (c - 1) / 2 → (c - 1) / 2 ≠ r → D (first + c) ≤ D (first + (c - 1) / 2)) ∧ ∀ c, 1 ≤ c → c < hi → (c - 1) / 2 = r → lo < r → lo ≤ (r - 1) / 2 → D (first + c) ≤ D (first + (r - 1) / 2)
theorem Heap.but {lo hi first : Nat} {D : Nat → Nat} (h : Heap (lo + 1) hi first D) : HeapBut lo hi first lo D := ⟨fun c h1 h2 h3 h4 => h c h1 h2 (by omega), fun c h1 h2 h3 h4 => by omega⟩
theorem HeapBut.done {lo hi first r : Nat} {D : Nat → Nat} (h : HeapBut lo hi first r D) (hc : ∀ c, 1 ≤ c → c < hi → (c - 1) / 2 = r → D (first + c) ≤ D (first + r)) : Heap lo hi first D := fun c h1 h2 h3 => by
  by_cases e : (c - 1) / 2 = r
  · rw [e]; exact hc c h1 h2 e
  · exact h.1 c h1 h2 h3 e
/-- The root goes down to its greatest child. -/
theorem HeapBut.down {lo hi first r k : Nat} {D : Nat → Nat} (h : HeapBut lo hi first r D) (hr : lo ≤ r) (hk1 : 1 ≤ k) (hk : k < hi) (hkr : (k - 1) / 2 = r) (hmax : ∀ c, 1 ≤ c → c < hi → (c - 1) / 2 = r → D (first + c) ≤ D (first + k)) (hlt : D (first + r) < D (first + k)) : HeapBut lo hi first k (swp D (first + r) (first + k)) := by
  have er : swp D (first + r) (first + k) (first + r) = D (first + k) := swp_l _ _ _
  have ek : swp D (first + r) (first + k) (first + k) = D (first + r) := swp_r _ _ _
  have eo : ∀ c, c ≠ r → c ≠ k → swp D (first + r) (first + k) (first + c) = D (first + c) := fun c h1 h2 => swp_o D (by omega) (by omega)
  refine ⟨fun c h1 h2 h3 h4 => ?_, fun c h1 h2 h3 h4 h5 => ?_⟩
  · by_cases e1 : (c - 1) / 2 = r
    · rw [e1, er]
      by_cases e2 : c = k
      · rw [e2, ek]; omega
      · rw [eo c (by omega) e2]; exact hmax c h1 h2 e1
    · rw [eo ((c - 1) / 2) e1 h4]
      by_cases e2 : c = r
      · subst e2
        rw [er]
        exact h.2 k hk1 hk hkr (by omega) h3
      · by_cases e3 : c = k
        · omega
        · rw [eo c e2 e3]
          exact h.1 c h1 h2 h3 e1
  · have e1 : c ≠ k := by omega
    have e2 : c ≠ r := by omega
    rw [eo c e2 e1, hkr, er]
    have := h.1 c h1 h2 (by omega) (by omega)
    rw [h3] at this
    exact this
theorem Heap.top {hi first : Nat} {D : Nat → Nat} (h : Heap 0 hi first D) : ∀ c, c < hi → D (first + c) ≤ D first := fun c => by
  induction c using Nat.strongRecOn with
  | _ c ih =>
    intro hc
    by_cases e : c = 0
    · subst e; exact Nat.le_refl _
    · exact Nat.le_trans (h c (by omega) hc (by omega)) (ih _ (by omega) (by omega))
end Go.Proofs.Ytmbclemicfffoaa
