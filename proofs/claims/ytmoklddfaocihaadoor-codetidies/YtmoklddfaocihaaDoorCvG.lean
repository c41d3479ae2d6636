import Derived.Test.YtmoklddfaocihaaDoorCvF
namespace Go.Proofs.YtmoklddfaocihaaDoor
open Go.RowKit

/-- The lengths of what is known. -/
def KB (k : Kn) : Prop := ∀ j, (kin (k j)).length ≤ 64
theorem KB.upd {k : Kn} (h : KB k) (t : Nat) {l : List Bool} (hl : l.length ≤ 64) : KB (updK k t l) := by
  intro j
  unfold updK
  by_cases e : j = t
  · rw [if_pos e]; exact hl
  · rw [if_neg e]; exact h j
theorem KB.hand {k k' : Kn} (h : KB k) {p : Pv} {f d : Nat} {l : List Bool} (hl : l.length ≤ 64) (e : handF p k f d l = .ok k') : KB k' := by
  unfold handF at e
  split at e
  · cases e
  · split at e
    · cases e
    · split at e
      · cases e; exact h
      · split at e
        · cases e
        · cases e; exact h.upd d hl
theorem bindK_ok {r : Except Int Kn} {f : Kn → Except Int Kn} {k : Kn} (h : bindK r f = .ok k) : ∃ k', r = .ok k' ∧ f k' = .ok k := by
  cases r with
  | ok k' => exact ⟨k', rfl, h⟩
  | error y => cases h
theorem KB.visit {k k' : Kn} (h : KB k) {p : Pv} {i : Nat} (e : visitF p k i = .ok k') : KB k' := by
  unfold visitF at e
  split at e
  · cases e
  · split at e
    · cases e
    · split at e
      · cases e
      · rename_i h1 h2 h3
        have hl : ((kin (k i)).take ((kin (k i)).length - (colB p (fTakes (p.op i).toNat) (p.arg i)).length) ++ colB p (fLays (p.op i).toNat) (p.arg i)).length ≤ 64 := by
          simp only [List.length_append, List.length_take]
          omega
        split at e
        · cases e; exact h
        · split at e
          · exact h.hand hl e
          · split at e
            · obtain ⟨k1, e1, e2⟩ := bindK_ok e
              exact (h.hand (h i) e1).hand hl e2
            · split at e
              · obtain ⟨k1, e1, e2⟩ := bindK_ok e
                exact (h.hand hl e1).hand hl e2
              · exact h.hand hl e
/-- The entries are known from the start. -/
def entK (p : Pv) : Nat → Kn
  | 0 => fun _ => none
  | e + 1 => if 0 ≤ p.en e then updK (entK p e) (p.en e).toNat [] else entK p e
theorem entK_nil (p : Pv) (e j : Nat) : kin (entK p e j) = [] := by
  induction e with
  | zero => rfl
  | succ e ih =>
    unfold entK
    split
    · unfold updK
      split
      · rfl
      · exact ih
    · exact ih
theorem entK_kb (p : Pv) (e : Nat) : KB (entK p e) := fun j => by rw [entK_nil]; simp
/-- The first j places gone through. -/
def goF (p : Pv) : Nat → Except (Int × Int) Kn
  | 0 => .ok (entK p 6)
  | j + 1 => match goF p j with
    | .error y => .error y
    | .ok k => if (k j).isSome = true then (match visitF p k j with
      | .ok k' => .ok k'
      | .error y => .error ((j : Int), y)) else .ok k
theorem goF_stays {p : Pv} {j n : Nat} {y : Int × Int} (hj : j ≤ n) (h : goF p j = .error y) : goF p n = .error y := by
  induction n with
  | zero =>
    obtain rfl : j = 0 := by omega
    exact h
  | succ n ih =>
    by_cases e : j = n + 1
    · subst e; exact h
    · unfold goF; rw [ih (by omega)]
theorem goF_kb {p : Pv} : ∀ {j : Nat} {k : Kn}, goF p j = .ok k → KB k
  | 0, k, h => by cases h; exact entK_kb p 6
  | j + 1, k, h => by
    unfold goF at h
    split at h
    · cases h
    · rename_i k0 e0
      have hb := goF_kb e0
      split at h
      · split at h
        · rename_i k1 e1
          cases h
          exact hb.visit e1
        · cases h
      · cases h; exact hb
/-- What becomes of the going through. -/
def Gt (lim : Nat) (W : World) (q : Nat) (g : Pg) (p : Pv) (r : Except (Int × Int) Kn) (e : Ending) (w' : World) : Prop := match r with
  | .ok k' => e = .returned (.tuple #[]) ∧ Hid (∃ hb, WK lim w' q hb g p k' ∧ W.grownBy w' (some q) ∧ W.heap.size ≤ hb)
  | .error (a, y) => ∃ g, e = .panicked [{ v := .iface 96 (.pointer (some ⟨g, 0, none⟩)), recovered := false }] ∧ Hid (Ft w'.heap.size w' (.iface 96 (.pointer (some ⟨g, 0, none⟩))) a y ∧ W.grownBy w' (some q))
theorem made2 (n j : Nat) (hj : j < n) (a b : Value) : (madeCells #[a, b] (n * 2)).toList[j * 2]? = some a ∧ (madeCells #[a, b] (n * 2)).toList[j * 2 + 1]? = some b := by
  constructor
  · have h1 : j * 2 < n * 2 := by omega
    simp [madeCells, h1]
  · have h1 : j * 2 + 1 < n * 2 := by omega
    have h2 : (j * 2 + 1) % 2 = 1 := by omega
    simp [madeCells, h1, h2]
theorem Tryd.infoSh : (Tryd.prog.info? 124).map (fun i => (i.zero, i.size, i.bytes)) = some (some (.agg #[.bool false, .string ⟨#[]⟩]), 2, 24) := by kernel_rfl
theorem InOk.of {p : Pv} (h : insF p = none) {i : Nat} (hi : i < p.n) : InOk p i := by
  have key : ∀ n, firstBad (insB p) n = none → ∀ j, j < n → insB p j = none := by
    intro n
    induction n with
    | zero => intro _ j hj; omega
    | succ n ih =>
      intro h j hj
      unfold firstBad at h
      have h1 : firstBad (insB p) n = none := by
        cases e : firstBad (insB p) n with
        | none => rfl
        | some r => rw [e] at h; cases h
      rw [h1] at h
      by_cases e : j = n
      · subst e; simpa using h
      · exact ih h1 j (by omega)
  have := key p.n h i hi
  unfold insB at this
  split at this
  · cases this
  · rename_i h1
    split at this
    · cases this
    · rename_i h2
      exact ⟨hi, by simpa using h1, by simpa using h2⟩
theorem ent_of {p : Pv} (h : entF p = none) {e : Nat} (he : e < 6) : p.en e = -1 ∨ isPl (p.en e) p.n = true := by
  have key : ∀ n, firstBad (entB p) n = none → ∀ j, j < n → entB p j = none := by
    intro n
    induction n with
    | zero => intro _ j hj; omega
    | succ n ih =>
      intro h j hj
      unfold firstBad at h
      have h1 : firstBad (entB p) n = none := by
        cases e : firstBad (entB p) n with
        | none => rfl
        | some r => rw [e] at h; cases h
      rw [h1] at h
      by_cases e : j = n
      · subst e; simpa using h
      · exact ih h1 j (by omega)
  have := key 6 h e he
  unfold entB at this
  split at this
  · cases this
  · rename_i h1
    by_cases e1 : p.en e = -1
    · exact .inl e1
    · right
      cases e2 : isPl (p.en e) p.n
      · exact absurd ⟨e1, e2⟩ h1
      · rfl
end Go.Proofs.YtmoklddfaocihaaDoor
