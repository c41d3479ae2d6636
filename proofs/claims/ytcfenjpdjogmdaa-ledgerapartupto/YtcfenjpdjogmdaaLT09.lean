import Derived.Test.YtcfenjpdjogmdaaLT02
import Derived.ArgAppend
import Derived.Laws.CopyOwn
import Derived.Laws.OwnMore
import Derived.WalkSmall
import Derived.Deep.QuietTactic
import Derived.BigQuiet
import Derived.Deep.RegionHeld
import Derived.Laws.BitsAllLaws
namespace Go.Proofs.Ytcfenjpdjogmdaa
open Go.RowKit Crc

def hi (B : List Nat) : Nat := B.foldl (fun v c => v * 256 + c) 0
theorem add_at (b off j : Nat) : (⟨b, off, none⟩ : Addr).add j = ⟨b, off + j, none⟩ := by unfold Addr.add; split <;> simp_all
/-- The slice shows these bytes; they lie in a block below lim. -/
def Shows (lim : Nat) (w : World) (ao : Option Addr) (n cap : Nat) (B : List Nat) : Prop :=
  n = B.length ∧ n ≤ cap ∧ n ≤ 140737488355328 ∧ (∀ x ∈ B, x < 256) ∧ ∃ b off, (0 < n → ao = some ⟨b, off, none⟩) ∧ (0 < n → b < lim) ∧ ∀ i, i < n → w.cell? ⟨b, off + i, none⟩ = some (.int .u8 ((B.getD i 0 : Nat) : Int))
theorem Shows.kept {lim : Nat} {w w' : World} {row : Option Nat} {ao : Option Addr} {n cap : Nat} {B : List Nat} (h : Shows lim w ao n cap B) (hg : w.grownBy w' row) (hr : ∀ g, row = some g → lim ≤ g) : Shows lim w' ao n cap B := by
  obtain ⟨h1, h2, h3, h4, b, off, h5, h6, h7⟩ := h
  refine ⟨h1, h2, h3, h4, b, off, h5, h6, fun i hi => ?_⟩
  have hb := h6 (by omega)
  exact hg.cell (h7 i hi) (fun e => by have := hr b e.symm; omega)
theorem Shows.wide {lim lim' : Nat} {w : World} {ao : Option Addr} {n cap : Nat} {B : List Nat} (h : Shows lim w ao n cap B) (hl : lim ≤ lim') : Shows lim' w ao n cap B := by
  obtain ⟨h1, h2, h3, h4, b, off, h5, h6, h7⟩ := h
  exact ⟨h1, h2, h3, h4, b, off, h5, fun h => Nat.lt_of_lt_of_le (h6 h) hl, h7⟩
theorem Shows.world {lim : Nat} {w w' : World} {ao : Option Addr} {n cap : Nat} {B : List Nat} (h : Shows lim w ao n cap B) (he : w'.heap = w.heap) : Shows lim w' ao n cap B := by
  obtain ⟨h1, h2, h3, h4, b, off, h5, h6, h7⟩ := h
  exact ⟨h1, h2, h3, h4, b, off, h5, h6, fun i hi => (World.cell?_of_block (w := w) (w' := w') (a := ⟨b, off + i, none⟩) (by rw [he])).trans (h7 i hi)⟩
theorem below_none {w w' : World} (h : Below w.heap.size w w') : w.grownBy w' none := ⟨h.os, h.tape, h.output, h.size, fun k hk _ => h.block k hk⟩
/-- Bytes of its own. -/
def Owns (base : Nat) (w : World) (v : Value) (B : List Nat) : Prop := w.ownsRow base 5 1 v B.length (vals B) ∧ (∀ x ∈ B, x < 256) ∧ B.length ≤ 140737488355328
theorem Owns.kept {base : Nat} {w w' : World} {v : Value} {B : List Nat} {row : Option Nat} (h : Owns base w v B) (hg : w.grownBy w' row) (hne : v.ownBlock = none ∨ v.ownBlock ≠ row) : Owns base w' v B := ⟨h.1.kept hg hne, h.2⟩
/-- A growing list of bytes: one more. -/
theorem Owns.snoc {base : Nat} {w w' : World} {v v' : Value} {B : List Nat} {c : Nat} (h : Owns base w v B) (hc : c < 256) (hl : B.length + 1 ≤ 140737488355328) (ho : w'.ownsRow base 5 1 v' (B.length + 1) (vals B ++ [.int .u8 (c : Int)])) : Owns base w' v' (B ++ [c]) := by
  refine ⟨?_, ?_, by simpa using hl⟩
  · rw [vals_append, vals_one, List.length_append]; exact ho
  · intro x hx
    rcases List.mem_append.1 hx with hx | hx
    · exact h.2.1 x hx
    · simp at hx; omega
theorem Owns.nil (base : Nat) (w : World) : Owns base w (.slice none 0 0) [] := ⟨World.ownsRow_nil _ _ _ _, by simp, by simp⟩
theorem grown_set (w : World) (g j : Nat) (u : Value) : w.grownBy (w.setCell ⟨g, j, none⟩ u) (some g) :=
  ⟨rfl, rfl, rfl, by simp, fun k _ hk => heap_setCell_other w ⟨g, j, none⟩ k u (fun e => hk (by simp [e]))⟩
theorem drew_grown (w : World) (q : Nat) : w.grownBy (w.drewN q) none := ⟨rfl, rfl, rfl, Nat.le_refl _, fun _ _ _ => rfl⟩
theorem Owns.drew {b : Nat} {w : World} {v : Value} {B : List Nat} (h : Owns b w v B) (q : Nat) : Owns b (w.drewN q) v B := h.kept (drew_grown w q) (by cases v.ownBlock <;> simp)
end Go.Proofs.Ytcfenjpdjogmdaa
namespace Go.Proofs.Ytcfenjpdjogmdaa
open Go.RowKit

end Go.Proofs.Ytcfenjpdjogmdaa
namespace Go.Proofs.Ytcfenjpdjogmdaa

/-- Two places change their numbers. -/
def swp (D : Nat → Nat) (i j : Nat) : Nat → Nat := fun k => if k = i then D j else if k = j then D i else D k
theorem swp_l (D : Nat → Nat) (i j : Nat) : swp D i j i = D j := by simp [swp]
theorem swp_r (D : Nat → Nat) (i j : Nat) : swp D i j j = D i := by
  unfold swp
  split
  · next h => rw [h]
  · simp
theorem swp_o (D : Nat → Nat) {i j k : Nat} (h1 : k ≠ i) (h2 : k ≠ j) : swp D i j k = D k := by simp [swp, h1, h2]
/-- Within [a, b) the one is the other in another order; else they are the same. -/
def PermR (a b : Nat) (D D' : Nat → Nat) : Prop := ∃ s t : Nat → Nat, (∀ i, t (s i) = i) ∧ (∀ i, s (t i) = i) ∧ (∀ i, i < a ∨ b ≤ i → s i = i) ∧ ∀ i, D' i = D (s i)
theorem PermR.refl (a b : Nat) (D : Nat → Nat) : PermR a b D D := ⟨id, id, fun _ => rfl, fun _ => rfl, fun _ _ => rfl, fun _ => rfl⟩
theorem PermR.trans {a b : Nat} {D D' D'' : Nat → Nat} (h : PermR a b D D') (h' : PermR a b D' D'') : PermR a b D D'' := by
  obtain ⟨s, t, h1, h2, h3, h4⟩ := h
  obtain ⟨s', t', k1, k2, k3, k4⟩ := h'
  refine ⟨fun i => s (s' i), fun i => t' (t i), fun i => ?_, fun i => ?_, fun i hi => ?_, fun i => ?_⟩
  · show t' (t (s (s' i))) = i
    rw [h1, k1]
  · show s (s' (t' (t i))) = i
    rw [k2, h2]
  · show s (s' i) = i
    rw [k3 i hi, h3 i hi]
  · rw [k4, h4]
theorem PermR.wide {a b a' b' : Nat} {D D' : Nat → Nat} (h : PermR a b D D') (ha : a' ≤ a) (hb : b ≤ b') : PermR a' b' D D' := by
  obtain ⟨s, t, h1, h2, h3, h4⟩ := h
  exact ⟨s, t, h1, h2, fun i hi => h3 i (by omega), h4⟩
theorem PermR.swp {a b : Nat} (D : Nat → Nat) {i j : Nat} (h1 : a ≤ i) (h2 : i < b) (h3 : a ≤ j) (h4 : j < b) : PermR a b D (swp D i j) := by
  have inv : ∀ k, (fun k => if k = i then j else if k = j then i else k) ((fun k => if k = i then j else if k = j then i else k) k) = k := fun k => by
    by_cases e1 : k = i
    · subst e1
      by_cases e2 : j = k
      · simp [e2]
      · simp [e2]
    · by_cases e2 : k = j
      · subst e2; simp [e1]
      · simp [e1, e2]
  refine ⟨fun k => if k = i then j else if k = j then i else k, fun k => if k = i then j else if k = j then i else k, inv, inv, fun k hk => ?_, fun k => ?_⟩
  · have e1 : k ≠ i := by omega
    have e2 : k ≠ j := by omega
    simp [e1, e2]
  · unfold Go.Proofs.Ytcfenjpdjogmdaa.swp
    by_cases e1 : k = i
    · simp [e1]
    · by_cases e2 : k = j
      · subst e2; simp [e1]
      · simp [e1, e2]
theorem PermR.out {a b : Nat} {D D' : Nat → Nat} (h : PermR a b D D') {i : Nat} (hi : i < a ∨ b ≤ i) : D' i = D i := by
  obtain ⟨s, t, h1, h2, h3, h4⟩ := h
  rw [h4, h3 i hi]
theorem PermR.at_ {a b : Nat} {D D' : Nat → Nat} (h : PermR a b D D') {i : Nat} (h1 : a ≤ i) (h2 : i < b) : ∃ j, a ≤ j ∧ j < b ∧ D' i = D j := by
  obtain ⟨s, t, k1, k2, k3, k4⟩ := h
  refine ⟨s i, ?_, ?_, k4 i⟩
  · by_cases e : s i < a
    · have h3 := k3 (s i) (.inl e)
      have h4 := congrArg t h3
      rw [k1, k1] at h4
      omega
    · omega
  · by_cases e : b ≤ s i
    · have h3 := k3 (s i) (.inr e)
      have h4 := congrArg t h3
      rw [k1, k1] at h4
      omega
    · omega
theorem PermR.all {a b : Nat} {D D' : Nat → Nat} (h : PermR a b D D') {P : Nat → Prop} (hP : ∀ i, a ≤ i → i < b → P (D i)) : ∀ i, a ≤ i → i < b → P (D' i) := fun i h1 h2 => by
  obtain ⟨j, h3, h4, h5⟩ := h.at_ h1 h2
  rw [h5]
  exact hP j h3 h4
theorem PermR.perm {a b n : Nat} {D D' : Nat → Nat} (h : PermR a b D D') (hb : b ≤ n) : ((List.range n).map D').Perm ((List.range n).map D) := by
  have h0 := h
  obtain ⟨s, t, k1, k2, k3, k4⟩ := h
  have e : (List.range n).map D' = ((List.range n).map s).map D := by
    rw [List.map_map]
    exact List.map_congr_left fun i _ => k4 i
  rw [e]
  refine List.Perm.map D ?_
  have inj : ∀ i j, s i = s j → i = j := fun i j hij => by rw [← k1 i, hij, k1 j]
  have nd : ((List.range n).map s).Nodup := List.Pairwise.map s (fun i j hij hs => hij (inj i j hs)) (List.nodup_range)
  have lt : ∀ (f g : Nat → Nat), (∀ i, g (f i) = i) → (∀ i, i < a ∨ b ≤ i → f i = i) → ∀ i, i < n → f i < n := fun f g h1 h2 i hi => by
    by_cases e : f i < n
    · exact e
    · have h3 := h2 (f i) (.inr (by omega))
      have h4 := congrArg g h3
      rw [h1, h1] at h4
      omega
  have tf : ∀ i, i < a ∨ b ≤ i → t i = i := fun i hi => by
    have h3 := k3 i hi
    have h4 := congrArg t h3
    rw [k1] at h4
    exact h4.symm
  refine (List.perm_ext_iff_of_nodup nd List.nodup_range).2 fun x => ?_
  simp only [List.mem_map, List.mem_range]
  constructor
  · rintro ⟨i, hi, rfl⟩
    exact lt s t k1 k3 i hi
  · intro hx
    exact ⟨t x, lt t s k2 tf x hx, k2 x⟩
/-- [a, b) is in order. -/
def SortR (a b : Nat) (D : Nat → Nat) : Prop := ∀ i j, a ≤ i → i ≤ j → j < b → D i ≤ D j
theorem SortR.none {a b : Nat} (D : Nat → Nat) (h : b ≤ a + 1) : SortR a b D := fun i j h1 h2 h3 => by
  have : i = j := by omega
  rw [this]; exact Nat.le_refl _
theorem SortR.same {a b : Nat} {D D' : Nat → Nat} (h : SortR a b D) (e : ∀ i, a ≤ i → i < b → D' i = D i) : SortR a b D' := fun i j h1 h2 h3 => by
  rw [e i h1 (by omega), e j (by omega) h3]
  exact h i j h1 h2 h3
theorem SortR.step {a b : Nat} {D : Nat → Nat} (h : ∀ i, a ≤ i → i + 1 < b → D i ≤ D (i + 1)) : SortR a b D := fun i j h1 h2 h3 => by
  obtain ⟨d, rfl⟩ : ∃ d, j = i + d := ⟨j - i, by omega⟩
  clear h2
  induction d with
  | zero => exact Nat.le_refl _
  | succ d ih => exact Nat.le_trans (ih (by omega)) (h (i + d) (by omega) (by omega))
/-- Two ordered stretches around a number make one. -/
theorem SortR.join {a b m : Nat} {D : Nat → Nat} (h1 : SortR a m D) (h2 : SortR (m + 1) b D) (hl : ∀ i, a ≤ i → i < m → D i ≤ D m) (hr : ∀ i, m < i → i < b → D m ≤ D i) : SortR a b D := fun i j k1 k2 k3 => by
  by_cases e1 : j < m
  · exact h1 i j k1 k2 e1
  · by_cases e2 : m < i
    · exact h2 i j (by omega) k2 k3
    · have A : D i ≤ D m := by
        by_cases e : i = m
        · rw [e]; exact Nat.le_refl _
        · exact hl i k1 (by omega)
      have B : D m ≤ D j := by
        by_cases e : j = m
        · rw [e]; exact Nat.le_refl _
        · exact hr j (by omega) k3
      exact Nat.le_trans A B
theorem SortR.list {n : Nat} {D : Nat → Nat} (h : SortR 0 n D) : ((List.range n).map D).Pairwise (· ≤ ·) := by
  rw [List.pairwise_map]
  refine List.Pairwise.imp_of_mem ?_ List.pairwise_lt_range
  intro i j hi hj hij
  exact h i j (by omega) (by omega) (List.mem_range.1 hj)
/-- Every child from lo on is at most its parent. -/
def Heap (lo hi first : Nat) (D : Nat → Nat) : Prop := ∀ c, 1 ≤ c → c < hi → lo ≤ (c - 1) / 2 → D (first + c) ≤ D (first + (c - 1) / 2)
/-- .. but for the children of r, which are at most r's parent. -/
def HeapBut (lo hi first r : Nat) (D : Nat → Nat) : Prop := (∀ c, 1 ≤ c → c < hi → lo ≤ (c - 1) / 2 → (c - 1) / 2 ≠ r → D (first + c) ≤ D (first + (c - 1) / 2)) ∧ ∀ c, 1 ≤ c → c < hi → (c - 1) / 2 = r → lo < r → lo ≤ (r - 1) / 2 → D (first + c) ≤ D (first + (r - 1) / 2)
theorem Heap.but {lo hi first : Nat} {D : Nat → Nat} (h : Heap (lo + 1) hi first D) : HeapBut lo hi first lo D := ⟨fun c h1 h2 h3 h4 => h c h1 h2 (by omega), fun c h1 h2 h3 h4 => by omega⟩
theorem HeapBut.done {lo hi first r : Nat} {D : Nat → Nat} (h : HeapBut lo hi first r D) (hc : ∀ c, 1 ≤ c → c < hi → (c - 1) / 2 = r → D (first + c) ≤ D (first + r)) : Heap lo hi first D := fun c h1 h2 h3 => by
  by_cases e : (c - 1) / 2 = r
  · rw [e]; exact hc c h1 h2 e
  · exact h.1 c h1 h2 h3 e
/-- The root goes down to its greatest child. -/
theorem HeapBut.down {lo hi first r k : Nat} {D : Nat → Nat} (h : HeapBut lo hi first r D) (hr : lo ≤ r) (hk1 : 1 ≤ k) (hk : k < hi) (hkr : (k - 1) / 2 = r) (hmax : ∀ c, 1 ≤ c → c < hi → (c - 1) / 2 = r → D (first + c) ≤ D (first + k)) (hlt : D (first + r) < D (first + k)) : HeapBut lo hi first k (swp D (first + r) (first + k)) := by
  have er : swp D (first + r) (first + k) (first + r) = D (first + k) := swp_l _ _ _
  have ek : swp D (first + r) (first + k) (first + k) = D (first + r) := swp_r _ _ _
  have eo : ∀ c, c ≠ r → c ≠ k → swp D (first + r) (first + k) (first + c) = D (first + c) := fun c h1 h2 => swp_o D (by omega) (by omega)
  refine ⟨fun c h1 h2 h3 h4 => ?_, fun c h1 h2 h3 h4 h5 => ?_⟩
  · by_cases e1 : (c - 1) / 2 = r
    · rw [e1, er]
      by_cases e2 : c = k
      · rw [e2, ek]; omega
      · rw [eo c (by omega) e2]; exact hmax c h1 h2 e1
    · rw [eo ((c - 1) / 2) e1 h4]
      by_cases e2 : c = r
      · subst e2
        rw [er]
        exact h.2 k hk1 hk hkr (by omega) h3
      · by_cases e3 : c = k
        · omega
        · rw [eo c e2 e3]
          exact h.1 c h1 h2 h3 e1
  · have e1 : c ≠ k := by omega
    have e2 : c ≠ r := by omega
    rw [eo c e2 e1, hkr, er]
    have := h.1 c h1 h2 (by omega) (by omega)
    rw [h3] at this
    exact this
theorem Heap.top {hi first : Nat} {D : Nat → Nat} (h : Heap 0 hi first D) : ∀ c, c < hi → D (first + c) ≤ D first := fun c => by
  induction c using Nat.strongRecOn with
  | _ c ih =>
    intro hc
    by_cases e : c = 0
    · subst e; exact Nat.le_refl _
    · exact Nat.le_trans (h c (by omega) hc (by omega)) (ih _ (by omega) (by omega))
end Go.Proofs.Ytcfenjpdjogmdaa
namespace Go.Proofs.Ytcfenjpdjogmdaa

/-- What lies ahead of a is not above what lies in [a, b). -/
def PreR (a b : Nat) (D : Nat → Nat) : Prop := a = 0 ∨ ∀ k, a ≤ k → k < b → D (a - 1) ≤ D k
theorem PreR.perm {a b : Nat} {D D' : Nat → Nat} (h : PreR a b D) (hp : PermR a b D D') : PreR a b D' := by
  rcases h with h | h
  · exact .inl h
  · by_cases e : a = 0
    · exact .inl e
    · refine .inr fun k h1 h2 => ?_
      rw [hp.out (i := a - 1) (.inl (by omega))]
      exact hp.all (P := fun v => D (a - 1) ≤ v) h k h1 h2
theorem PreR.less {a b b' : Nat} {D : Nat → Nat} (h : PreR a b D) (hb : b' ≤ b) : PreR a b' D := by
  rcases h with h | h
  · exact .inl h
  · exact .inr fun k h1 h2 => h k h1 (by omega)
/-- The state of pdqsort's loop: once [p, q) is in order, all of [a, b) is. -/
structure PdR (a b p q : Nat) (D : Nat → Nat) : Prop where
  ap : a ≤ p
  pq : p ≤ q
  qb : q ≤ b
  pre : PreR p q D
  fin : ∀ D', PermR p q D D' → SortR p q D' → SortR a b D'
theorem PdR.start {a b : Nat} {D : Nat → Nat} (hab : a ≤ b) (h : PreR a b D) : PdR a b a b D := ⟨Nat.le_refl _, hab, Nat.le_refl _, h, fun _ _ h => h⟩
theorem PdR.perm {a b p q : Nat} {D D' : Nat → Nat} (h : PdR a b p q D) (hp : PermR p q D D') : PdR a b p q D' := ⟨h.ap, h.pq, h.qb, h.pre.perm hp, fun D2 h1 h2 => h.fin D2 (hp.trans h1) h2⟩
/-- Behind partitionEqual. -/
theorem PdR.eq {a b p q m v : Nat} {D D' : Nat → Nat} (h : PdR a b p q D) (hp : PermR p q D D') (h1 : p < m) (h2 : m ≤ q) (hl : ∀ k, p ≤ k → k < m → D' k = v) (hr : ∀ k, m ≤ k → k < q → v < D' k) : PdR a b m q D' := by
  refine ⟨by have := h.ap; omega, h2, h.qb, .inr fun k k1 k2 => ?_, fun D2 g1 g2 => ?_⟩
  · rw [hl (m - 1) (by omega) (by omega)]
    exact Nat.le_of_lt (hr k k1 k2)
  · refine h.fin D2 (hp.trans (g1.wide (Nat.le_of_lt h1) (Nat.le_refl _))) fun i j i1 i2 i3 => ?_
    have el : ∀ k, p ≤ k → k < m → D2 k = v := fun k k1 k2 => by rw [g1.out (.inl k2)]; exact hl k k1 k2
    have er : ∀ k, m ≤ k → k < q → v < D2 k := g1.all (P := fun x => v < x) hr
    by_cases e1 : j < m
    · rw [el i i1 (by omega), el j (by omega) e1]; exact Nat.le_refl _
    · by_cases e2 : i < m
      · rw [el i i1 e2]
        exact Nat.le_of_lt (er j (by omega) i3)
      · exact g2 i j (by omega) i2 i3
/-- Behind partition, and the shorter side on the left in order. -/
theorem PdR.left {a b p q m : Nat} {D D' D2 : Nat → Nat} (h : PdR a b p q D) (hp : PermR p q D D') (h1 : p ≤ m) (h2 : m < q) (hl : ∀ k, p ≤ k → k < m → D' k < D' m) (hr : ∀ k, m < k → k < q → D' m ≤ D' k) (hp2 : PermR p m D' D2) (hs : SortR p m D2) : PdR a b (m + 1) q D2 := by
  have em : D2 m = D' m := hp2.out (.inr (Nat.le_refl _))
  have el : ∀ k, p ≤ k → k < m → D2 k < D' m := hp2.all (P := fun x => x < D' m) hl
  have er : ∀ k, m < k → k < q → D' m ≤ D2 k := fun k k1 k2 => by rw [hp2.out (.inr (by omega))]; exact hr k k1 k2
  refine ⟨by have := h.ap; omega, h2, h.qb, .inr fun k k1 k2 => ?_, fun D3 g1 g2 => ?_⟩
  · rw [Nat.add_sub_cancel, em]
    exact er k (by omega) k2
  · refine h.fin D3 ((hp.trans (hp2.wide (Nat.le_refl _) (Nat.le_of_lt h2))).trans (g1.wide (by omega) (Nat.le_refl _))) ?_
    have e3 : ∀ k, k < m + 1 → D3 k = D2 k := fun k hk => g1.out (.inl hk)
    refine SortR.join (m := m) (hs.same fun k _ k2 => e3 k (by omega)) g2 (fun k k1 k2 => ?_) fun k k1 k2 => ?_
    · rw [e3 k (by omega), e3 m (by omega), em]
      exact Nat.le_of_lt (el k k1 k2)
    · rw [e3 m (by omega), em]
      exact g1.all (P := fun x => D' m ≤ x) (fun i i1 i2 => er i (by omega) i2) k (by omega) k2
/-- .. on the right. -/
theorem PdR.right {a b p q m : Nat} {D D' D2 : Nat → Nat} (h : PdR a b p q D) (hp : PermR p q D D') (h1 : p ≤ m) (h2 : m < q) (hl : ∀ k, p ≤ k → k < m → D' k < D' m) (hr : ∀ k, m < k → k < q → D' m ≤ D' k) (hp2 : PermR (m + 1) q D' D2) (hs : SortR (m + 1) q D2) : PdR a b p m D2 := by
  have em : ∀ k, k ≤ m → D2 k = D' k := fun k hk => hp2.out (.inl (by omega))
  have er : ∀ k, m + 1 ≤ k → k < q → D' m ≤ D2 k := hp2.all (P := fun x => D' m ≤ x) fun i i1 i2 => hr i (by omega) i2
  have hpp : PermR p q D D2 := hp.trans (hp2.wide (by omega) (Nat.le_refl _))
  refine ⟨h.ap, h1, by have := h.qb; omega, (h.pre.perm hpp).less (by omega), fun D3 g1 g2 => ?_⟩
  refine h.fin D3 (hpp.trans (g1.wide (Nat.le_refl _) (Nat.le_of_lt h2))) ?_
  have e3 : ∀ k, m ≤ k → D3 k = D2 k := fun k hk => g1.out (.inr hk)
  refine SortR.join (m := m) g2 (hs.same fun k k1 _ => e3 k (by omega)) (fun k k1 k2 => ?_) fun k k1 k2 => ?_
  · rw [e3 m (Nat.le_refl _), em m (Nat.le_refl _)]
    exact g1.all (P := fun x => x ≤ D' m) (fun i i1 i2 => by rw [em i (by omega)]; exact Nat.le_of_lt (hl i i1 i2)) k k1 k2
  · rw [e3 m (Nat.le_refl _), em m (Nat.le_refl _), e3 k (by omega)]
    exact er k (by omega) k2
end Go.Proofs.Ytcfenjpdjogmdaa
