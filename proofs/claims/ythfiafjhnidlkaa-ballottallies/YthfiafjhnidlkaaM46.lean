import Derived.Test.YthfiafjhnidlkaaBRo
import Derived.Test.YthfiafjhnidlkaaBTw
import Derived.Test.YthfiafjhnidlkaaM43
import Derived.BigQuiet
namespace Go.Proofs.Ythfiafjhnidlkaa
open Go.RowKit

/-- A key of the program's tally, as the reference's. -/
structure KR (α : Type) where
  n : α → Nat
  num : α → Nat
  node : α → Int
  inj : ∀ x y, n x = n y → num x = num y → node x = node y → x = y
def KR.is {α : Type} (κ : KR α) (r : Kr) (x : α) : Bool := r.is (κ.n x) (κ.num x) (κ.node x)
def KR.one : KR Nat := ⟨fun x => x, fun _ => 0, fun _ => 0, fun _ _ h _ _ => h⟩
def KR.two : KR (Nat × Int) := ⟨fun _ => 0, fun x => x.1, fun x => x.2, fun _ _ _ h1 h2 => Prod.ext h1 h2⟩
theorem Kr.is_iff (r : Kr) (n num : Nat) (node : Int) : r.is n num node = true ↔ r.n = n ∧ r.num = num ∧ r.node = node := by simp [Kr.is]
theorem KR.is_ne {α : Type} (κ : KR α) {r : Kr} {x y : α} (h : κ.is r x = true) (hne : y ≠ x) : κ.is r y = false := by
  cases hb : κ.is r y with
  | false => rfl
  | true =>
    obtain ⟨a1, a2, a3⟩ := (r.is_iff _ _ _).1 h
    obtain ⟨b1, b2, b3⟩ := (r.is_iff _ _ _).1 hb
    exact absurd (κ.inj y x (b1.symm.trans a1) (b2.symm.trans a2) (b3.symm.trans a3)) hne
/-- A map and the reference's list are alike. -/
structure Mat {α : Type} (κ : KR α) (n : Nat) (m : α → Nat) (p : α → Bool) (L : List Kr) : Prop where
  len : L.length = n
  le : n ≤ 64
  apart : Apart L
  small : ∀ x ∈ L, x.fr < 4294967296
  fr : ∀ k, frOf L (κ.n k) (κ.num k) (κ.node k) = m k
  has : ∀ k, p k = true ↔ ∃ (i : Nat) (r : Kr), L[i]? = some r ∧ κ.is r k = true
variable {α : Type} {κ : KR α} {n : Nat} {m : α → Nat} {p : α → Bool} {L : List Kr}
theorem Mat.yes (h : Mat κ n m p L) {k : α} (hp : p k = true) : ∃ (i : Nat) (r : Kr), L[i]? = some r ∧ κ.is r k = true ∧ r.fr = m k := by
  obtain ⟨i, r, h1, h2⟩ := (h.has k).1 hp
  exact ⟨i, r, h1, h2, by rw [← h.fr k]; exact (frOf_at h.apart h1 h2).symm⟩
theorem Mat.no (h : Mat κ n m p L) {k : α} (hp : p k = false) : (∀ x ∈ L, κ.is x k = false) ∧ m k = 0 := by
  have h1 : ∀ x ∈ L, κ.is x k = false := fun x hx => by
    cases hb : κ.is x k with
    | false => rfl
    | true =>
      obtain ⟨i, hi⟩ := List.getElem?_of_mem hx
      rw [(h.has k).2 ⟨i, x, hi, hb⟩] at hp
      cases hp
  exact ⟨h1, by rw [← h.fr k]; exact frOf_no h1⟩
theorem mat_nil (κ : KR α) : Mat κ 0 (fun _ => 0) (fun _ => false) [] := ⟨rfl, by omega, fun i j x y _ _ _ h => by simp at h, fun x hx => by simp at hx, fun k => rfl, fun k => by simp⟩
theorem Mat.sm (h : Mat κ n m p L) (k : α) : m k < 4294967296 := by
  cases hp : p k with
  | true =>
    obtain ⟨i, r, h1, _, h3⟩ := h.yes hp
    rw [← h3]
    exact h.small r (List.mem_of_getElem? h1)
  | false => rw [(h.no hp).2]; decide
/-- What hangs on who is there alone. -/
theorem frOf_has {L : List Kr} {x : α} {f : Nat} (ha : Apart L) (h : (∃ (i : Nat) (r : Kr), L[i]? = some r ∧ κ.is r x = true ∧ r.fr = f) ∨ ((∀ r ∈ L, κ.is r x = false) ∧ f = 0)) : frOf L (κ.n x) (κ.num x) (κ.node x) = f := by
  rcases h with ⟨i, r, h1, h2, h3⟩ | ⟨h1, h2⟩
  · rw [frOf_at ha h1 h2, h3]
  · rw [frOf_no h1, h2]
theorem Mat.set [DecidableEq α] (h : Mat κ n m p L) {k : α} (hp : p k = true) {i : Nat} {r : Kr} (hi : L[i]? = some r) (hr : κ.is r k = true) {f : Nat} (hf : f < 4294967296) : Mat κ n (upd m k f) (upd p k true) (L.set i ⟨r.n, r.num, r.node, f⟩) := by
  have hil := (List.getElem?_eq_some_iff.1 hi).1
  have key : ∀ (j : Nat) (x : Kr), (L.set i ⟨r.n, r.num, r.node, f⟩)[j]? = some x → ∃ y, L[j]? = some y ∧ (∀ a b c, x.is a b c = y.is a b c) ∧ (j ≠ i → x = y) ∧ (j = i → x.fr = f) := fun j x hx => by
    by_cases e : i = j
    · subst e
      rw [List.getElem?_set_self hil] at hx
      cases hx
      exact ⟨r, hi, fun _ _ _ => rfl, fun h => absurd rfl h, fun _ => rfl⟩
    · rw [List.getElem?_set_ne e] at hx
      exact ⟨x, hx, fun _ _ _ => rfl, fun _ => rfl, fun e' => absurd e'.symm e⟩
  have back : ∀ (j : Nat) (y : Kr), L[j]? = some y → ∃ x, (L.set i ⟨r.n, r.num, r.node, f⟩)[j]? = some x ∧ (∀ a b c, x.is a b c = y.is a b c) ∧ (j ≠ i → x = y) ∧ (j = i → x.fr = f) := fun j y hy => by
    by_cases e : i = j
    · subst e
      rw [hi] at hy
      cases hy
      exact ⟨_, List.getElem?_set_self hil, fun _ _ _ => rfl, fun h => absurd rfl h, fun _ => rfl⟩
    · exact ⟨y, by rw [List.getElem?_set_ne e]; exact hy, fun _ _ _ => rfl, fun _ => rfl, fun e' => absurd e'.symm e⟩
  have ap : Apart (L.set i ⟨r.n, r.num, r.node, f⟩) := fun a b x y n1 n2 n3 hx hy h1 h2 => by
    obtain ⟨x', hx', e1, _⟩ := key a x hx
    obtain ⟨y', hy', e2, _⟩ := key b y hy
    rw [e1] at h1
    rw [e2] at h2
    exact h.apart a b x' y' n1 n2 n3 hx' hy' h1 h2
  refine ⟨by rw [List.length_set]; exact h.len, h.le, ap, fun x hx => ?_, fun z => ?_, fun z => ?_⟩
  · obtain ⟨j, hj⟩ := List.getElem?_of_mem hx
    obtain ⟨y, hy, _, e2, e3⟩ := key j x hj
    by_cases e : j = i
    · rw [e3 e]; exact hf
    · rw [e2 e]; exact h.small y (List.mem_of_getElem? hy)
  · refine frOf_has ap ?_
    by_cases e : z = k
    · subst e
      obtain ⟨x, hx, e1, _, e3⟩ := back i r hi
      refine .inl ⟨i, x, hx, (e1 _ _ _).trans hr, ?_⟩
      rw [e3 rfl, upd, if_pos rfl]
    · rw [upd, if_neg e]
      cases hz : p z with
      | true =>
        obtain ⟨j, y, h1, h2, h3⟩ := h.yes hz
        have hji : j ≠ i := fun e' => by
          subst e'
          rw [hi] at h1
          cases h1
          rw [κ.is_ne hr e] at h2
          cases h2
        obtain ⟨x, hx, e1, e2, _⟩ := back j y h1
        exact .inl ⟨j, x, hx, (e1 _ _ _).trans h2, by rw [e2 hji]; exact h3⟩
      | false =>
        obtain ⟨h1, h2⟩ := h.no hz
        refine .inr ⟨fun x hx => ?_, h2⟩
        obtain ⟨j, hj⟩ := List.getElem?_of_mem hx
        obtain ⟨y, hy, e1, _⟩ := key j x hj
        exact (e1 _ _ _).trans (h1 y (List.mem_of_getElem? hy))
  · have base : (∃ (j : Nat) (x : Kr), (L.set i ⟨r.n, r.num, r.node, f⟩)[j]? = some x ∧ κ.is x z = true) ↔ ∃ (j : Nat) (x : Kr), L[j]? = some x ∧ κ.is x z = true := by
      constructor
      · rintro ⟨j, x, h1, h2⟩
        obtain ⟨y, hy, e1, _⟩ := key j x h1
        exact ⟨j, y, hy, (e1 _ _ _).symm.trans h2⟩
      · rintro ⟨j, y, h1, h2⟩
        obtain ⟨x, hx, e1, _⟩ := back j y h1
        exact ⟨j, x, hx, (e1 _ _ _).trans h2⟩
    rw [base, ← h.has z]
    by_cases e : z = k
    · subst e
      rw [upd, if_pos rfl, hp]
    · rw [upd, if_neg e]
theorem Mat.snoc [DecidableEq α] (h : Mat κ n m p L) {k : α} (hp : p k = false) (hn : n < 64) {f : Nat} (hf : f < 4294967296) : Mat κ (n + 1) (upd m k f) (upd p k true) (L ++ [⟨κ.n k, κ.num k, κ.node k, f⟩]) := by
  obtain ⟨hno, _⟩ := h.no hp
  have hk : κ.is ⟨κ.n k, κ.num k, κ.node k, f⟩ k = true := by simp [KR.is, Kr.is]
  have at_ : ∀ (j : Nat) (x : Kr), (L ++ [⟨κ.n k, κ.num k, κ.node k, f⟩])[j]? = some x → L[j]? = some x ∨ (j = L.length ∧ x = ⟨κ.n k, κ.num k, κ.node k, f⟩) := fun j x hx => by
    by_cases hj : j < L.length
    · rw [List.getElem?_append_left hj] at hx
      exact .inl hx
    · have hl := (List.getElem?_eq_some_iff.1 hx).1
      simp at hl
      obtain rfl : j = L.length := by omega
      rw [kr_get_snoc] at hx
      cases hx
      exact .inr ⟨rfl, rfl⟩
  have up : ∀ (j : Nat) (x : Kr), L[j]? = some x → (L ++ [⟨κ.n k, κ.num k, κ.node k, f⟩])[j]? = some x := fun j x hx => by
    rw [List.getElem?_append_left (List.getElem?_eq_some_iff.1 hx).1]
    exact hx
  have hno' : ∀ x ∈ L, ∀ a b c, x.is a b c = true → (⟨κ.n k, κ.num k, κ.node k, f⟩ : Kr).is a b c = true → False := fun x hx a b c h1 h2 => by
    obtain ⟨e1, e2, e3⟩ := (Kr.is_iff _ _ _ _).1 h2
    have h3 := hno x hx
    unfold KR.is at h3
    simp only at e1 e2 e3
    rw [e1, e2, e3, h1] at h3
    cases h3
  have ap : Apart (L ++ [⟨κ.n k, κ.num k, κ.node k, f⟩]) := fun a b x y n1 n2 n3 hx hy h1 h2 => by
    rcases at_ a x hx with hx | ⟨ea, rfl⟩
    · rcases at_ b y hy with hy | ⟨eb, rfl⟩
      · exact h.apart a b x y n1 n2 n3 hx hy h1 h2
      · exact (hno' x (List.mem_of_getElem? hx) _ _ _ h1 h2).elim
    · rcases at_ b y hy with hy | ⟨eb, rfl⟩
      · exact (hno' y (List.mem_of_getElem? hy) _ _ _ h2 h1).elim
      · rw [ea, eb]
  refine ⟨by rw [List.length_append, h.len]; rfl, by omega, ap, fun x hx => ?_, fun z => ?_, fun z => ?_⟩
  · rcases List.mem_append.1 hx with hx | hx
    · exact h.small x hx
    · rw [List.mem_singleton.1 hx]; exact hf
  · refine frOf_has ap ?_
    by_cases e : z = k
    · subst e
      exact .inl ⟨L.length, _, kr_get_snoc _ _, hk, by rw [upd, if_pos rfl]⟩
    · rw [upd, if_neg e]
      cases hz : p z with
      | true =>
        obtain ⟨j, y, h1, h2, h3⟩ := h.yes hz
        exact .inl ⟨j, y, up j y h1, h2, h3⟩
      | false =>
        obtain ⟨h1, h2⟩ := h.no hz
        refine .inr ⟨fun x hx => ?_, h2⟩
        rcases List.mem_append.1 hx with hx | hx
        · exact h1 x hx
        · rw [List.mem_singleton.1 hx]; exact κ.is_ne hk e
  · by_cases e : z = k
    · subst e
      rw [upd, if_pos rfl]
      exact ⟨fun _ => ⟨L.length, _, kr_get_snoc _ _, hk⟩, fun _ => rfl⟩
    · rw [upd, if_neg e, h.has z]
      constructor
      · rintro ⟨j, x, h1, h2⟩
        exact ⟨j, x, up j x h1, h2⟩
      · rintro ⟨j, x, h1, h2⟩
        rcases at_ j x h1 with h1 | ⟨_, rfl⟩
        · exact ⟨j, x, h1, h2⟩
        · rw [κ.is_ne hk e] at h2; cases h2
theorem drop_at {L : List Kr} {a b : Nat} {c : Int} {x : Kr} : x ∈ krDrop L a b c ↔ x ∈ L ∧ x.is a b c = false := by
  unfold krDrop
  rw [List.mem_filter]
  simp
theorem apart_nodup : ∀ {L : List Kr}, Apart L → ∀ {a b : Nat} {c : Int}, (krDrop L a b c).length = if (∃ r ∈ L, r.is a b c = true) then L.length - 1 else L.length
  | [], _, a, b, c => by simp [krDrop]
  | x :: t, h, a, b, c => by
    have ht : Apart t := fun i j y z n1 n2 n3 h1 h2 h3 h4 => by
      have := h (i + 1) (j + 1) y z n1 n2 n3 (by simpa using h1) (by simpa using h2) h3 h4
      omega
    have ih := apart_nodup ht (a := a) (b := b) (c := c)
    by_cases hx : x.is a b c = true
    · have hno : ∀ r ∈ t, r.is a b c = false := fun r hr => by
        obtain ⟨j, hj⟩ := List.getElem?_of_mem hr
        cases hb : r.is a b c with
        | false => rfl
        | true =>
          have := h 0 (j + 1) x r a b c rfl (by simpa using hj) hx hb
          omega
      have h1 : ¬ ∃ r ∈ t, r.is a b c = true := fun ⟨r, hr, h2⟩ => by rw [hno r hr] at h2; cases h2
      rw [if_neg h1] at ih
      rw [if_pos ⟨x, by simp, hx⟩]
      unfold krDrop at *
      rw [List.filter_cons_of_neg (by simp [hx]), ih]
      simp
    · have e : (∃ r ∈ x :: t, r.is a b c = true) ↔ ∃ r ∈ t, r.is a b c = true := by
        constructor
        · rintro ⟨r, hr, h2⟩
          rcases List.mem_cons.1 hr with rfl | hr
          · exact absurd h2 hx
          · exact ⟨r, hr, h2⟩
        · rintro ⟨r, hr, h2⟩
          exact ⟨r, List.mem_cons_of_mem _ hr, h2⟩
      unfold krDrop at *
      rw [List.filter_cons_of_pos (by simpa using hx), List.length_cons, ih]
      by_cases h1 : ∃ r ∈ t, r.is a b c = true
      · rw [if_pos h1, if_pos (e.2 h1)]
        obtain ⟨r, hr, _⟩ := h1
        have := List.length_pos_of_mem hr
        simp
        omega
      · rw [if_neg h1, if_neg (fun h2 => h1 (e.1 h2))]
        rfl
theorem apart_drop {L : List Kr} (h : Apart L) (a b : Nat) (c : Int) : Apart (krDrop L a b c) := by
  have key : ∀ (L : List Kr), Apart L → Apart (krDrop L a b c) := by
    intro L
    induction L with
    | nil => exact fun h => h
    | cons x t ih =>
      intro h
      have ht : Apart t := fun i j y z n1 n2 n3 h1 h2 h3 h4 => by
        have := h (i + 1) (j + 1) y z n1 n2 n3 (by simpa using h1) (by simpa using h2) h3 h4
        omega
      have ih := ih ht
      by_cases hx : x.is a b c = true
      · unfold krDrop at *
        rw [List.filter_cons_of_neg (by simp [hx])]
        exact ih
      · have hfar : ∀ r ∈ krDrop t a b c, ∀ n1 n2 n3, x.is n1 n2 n3 = true → r.is n1 n2 n3 = true → False := fun r hr n1 n2 n3 h1 h2 => by
          obtain ⟨j, hj⟩ := List.getElem?_of_mem (drop_at.1 hr).1
          have := h 0 (j + 1) x r n1 n2 n3 rfl (by simpa using hj) h1 h2
          omega
        have e : krDrop (x :: t) a b c = x :: krDrop t a b c := by
          unfold krDrop
          rw [List.filter_cons_of_pos (by simpa using hx)]
        rw [e]
        intro i j y z n1 n2 n3 h1 h2 h3 h4
        cases i with
        | zero =>
          simp at h1
          subst h1
          cases j with
          | zero => rfl
          | succ j => exact (hfar z (List.mem_of_getElem? (by simpa using h2)) _ _ _ h3 h4).elim
        | succ i =>
          cases j with
          | zero =>
            simp at h2
            subst h2
            exact (hfar y (List.mem_of_getElem? (by simpa using h1)) _ _ _ h4 h3).elim
          | succ j =>
            have := ih i j y z n1 n2 n3 (by simpa using h1) (by simpa using h2) h3 h4
            omega
  exact key L h
theorem Mat.drop [DecidableEq α] (h : Mat κ n m p L) (k : α) : Mat κ (dnN (p k) n) (upd m k 0) (upd p k false) (krDrop L (κ.n k) (κ.num k) (κ.node k)) := by
  have ap := apart_drop h.apart (κ.n k) (κ.num k) (κ.node k)
  have hex : (∃ r ∈ L, r.is (κ.n k) (κ.num k) (κ.node k) = true) ↔ p k = true := by
    rw [h.has k]
    constructor
    · rintro ⟨r, hr, h2⟩
      obtain ⟨i, hi⟩ := List.getElem?_of_mem hr
      exact ⟨i, r, hi, h2⟩
    · rintro ⟨i, r, hi, h2⟩
      exact ⟨r, List.mem_of_getElem? hi, h2⟩
  have hln : (krDrop L (κ.n k) (κ.num k) (κ.node k)).length = dnN (p k) n := by
    rw [apart_nodup h.apart, dnN, h.len]
    by_cases hp : p k = true
    · rw [if_pos (hex.2 hp), if_pos hp]
    · rw [if_neg (fun h1 => hp (hex.1 h1)), if_neg hp]
  refine ⟨hln, ?_, ap, fun x hx => h.small x (drop_at.1 hx).1, fun z => ?_, fun z => ?_⟩
  · have := h.le
    unfold dnN
    split <;> omega
  · refine frOf_has ap ?_
    by_cases e : z = k
    · subst e
      exact .inr ⟨fun r hr => (drop_at.1 hr).2, by rw [upd, if_pos rfl]⟩
    · rw [upd, if_neg e]
      cases hz : p z with
      | true =>
        obtain ⟨j, y, h1, h2, h3⟩ := h.yes hz
        obtain ⟨j', hj'⟩ := List.getElem?_of_mem (drop_at.2 ⟨List.mem_of_getElem? h1, κ.is_ne (y := k) h2 (fun e' => e e'.symm)⟩)
        exact .inl ⟨j', y, hj', h2, h3⟩
      | false =>
        obtain ⟨h1, h2⟩ := h.no hz
        exact .inr ⟨fun r hr => h1 r (drop_at.1 hr).1, h2⟩
  · by_cases e : z = k
    · subst e
      rw [upd, if_pos rfl]
      constructor
      · intro h1; cases h1
      · rintro ⟨i, r, hi, h2⟩
        have := (drop_at.1 (List.mem_of_getElem? hi)).2
        rw [show r.is (κ.n z) (κ.num z) (κ.node z) = true from h2] at this
        cases this
    · rw [upd, if_neg e, h.has z]
      constructor
      · rintro ⟨i, r, hi, h2⟩
        obtain ⟨j', hj'⟩ := List.getElem?_of_mem (drop_at.2 ⟨List.mem_of_getElem? hi, κ.is_ne (y := k) h2 (fun e' => e e'.symm)⟩)
        exact ⟨j', r, hj', h2⟩
      · rintro ⟨i, r, hi, h2⟩
        obtain ⟨j', hj'⟩ := List.getElem?_of_mem (drop_at.1 (List.mem_of_getElem? hi)).1
        exact ⟨j', r, hj', h2⟩
end Go.Proofs.Ythfiafjhnidlkaa
namespace Go.Proofs.Ythfiafjhnidlkaa
open Go.RowKit

/-- A tally that no call made. -/
def DeadT (W : World) (a : Option Addr) : Prop := a = none ∨ ∃ p, a = some ⟨p, 0, none⟩ ∧ p < W.heap.size ∧ W.cell? ⟨p, 10, none⟩ = some (.map none)
theorem DeadT.kept {W W' : World} {a : Option Addr} (h : DeadT W a) (hb : Below W.heap.size W W') : DeadT W' a := by
  rcases h with h | ⟨p, h1, h2, h3⟩
  · exact .inl h
  · exact .inr ⟨p, h1, Nat.lt_of_lt_of_le h2 hb.size, (hb.cell (p := ⟨p, 10, none⟩) h2).trans h3⟩
set_option maxRecDepth 10000 in
set_option maxHeartbeats 400000 in
theorem dmade {w : World} {a : Option Addr} (h : DeadT w a) :
    Calls Try.prog 46 #[.pointer a] w fun e w' => e = .returned (.bool false) ∧ w' = w := by
  have q := map_some_neq
  rcases h with rfl | ⟨p, rfl, h1, h2⟩
  · go_enter Try.func46, Try.ntmps46
    go_wp2
    go_ret
    exact ⟨rfl, rfl⟩
  · go_enter Try.func46, Try.ntmps46
    go_wp2
    go_ret
    exact ⟨rfl, rfl⟩
set_option maxRecDepth 10000 in
set_option maxHeartbeats 400000 in
theorem dspeak {w : World} {a : Option Addr} (h : DeadT w a) (k nd : Int) :
    Calls Try.prog 11 #[.pointer a, .int .u64 k, .int .i64 nd] w fun e w' => e = .returned (.tuple #[.int .i64 0, .int .i64 3]) ∧ w' = w := by
  have HM := hide (dmade h)
  clear h
  go_enter Try.func11, Try.ntmps11
  go_wp2_with fail
  refine HM.out.mono ?_
  rintro e w1 ⟨rfl, rfl⟩
  go_wp2
  go_ret2
  exact ⟨rfl, rfl⟩
set_option maxRecDepth 10000 in
set_option maxHeartbeats 400000 in
theorem ddrop {w : World} {a : Option Addr} (h : DeadT w a) (k : Int) :
    Calls Try.prog 10 #[.pointer a, .int .u64 k] w fun e w' => e = .returned (.tuple #[]) ∧ w' = w := by
  have HM := hide (dmade h)
  clear h
  go_enter Try.func10, Try.ntmps10
  go_wp2_with fail
  refine HM.out.mono ?_
  rintro e w1 ⟨rfl, rfl⟩
  go_wp2
  go_end0
  exact ⟨rfl, rfl⟩
set_option maxRecDepth 10000 in
set_option maxHeartbeats 400000 in
theorem dlen {w : World} {a : Option Addr} (h : DeadT w a) :
    Calls Try.prog 40 #[.pointer a] w fun e w' => e = .returned (.int .i64 0) ∧ w' = w := by
  have HM := hide (dmade h)
  clear h
  go_enter Try.func40, Try.ntmps40
  go_wp2_with fail
  refine HM.out.mono ?_
  rintro e w1 ⟨rfl, rfl⟩
  go_wp2
  go_ret
  exact ⟨rfl, rfl⟩
set_option maxRecDepth 10000 in
set_option maxHeartbeats 400000 in
theorem dnodes {w : World} {a : Option Addr} (h : DeadT w a) (k : Int) :
    Calls Try.prog 16 #[.pointer a, .int .u64 k] w fun e w' => e = .returned (.int .u32 0) ∧ w' = w := by
  have HM := hide (dmade h)
  clear h
  go_enter Try.func16, Try.ntmps16
  go_wp2_with fail
  refine HM.out.mono ?_
  rintro e w1 ⟨rfl, rfl⟩
  go_wp2
  go_ret
  exact ⟨rfl, rfl⟩
set_option maxRecDepth 10000 in
set_option maxHeartbeats 800000 in
theorem dreached {w : World} {a : Option Addr} (h : DeadT w a) (k : Int) :
    Calls Try.prog 14 #[.pointer a, .int .u64 k] w fun e w' => e = .returned (.bool false) ∧ Below w.heap.size w w' := by
  have HD : Hid (∀ V, Hid (Below w.heap.size w V) → Calls Try.prog 46 #[.pointer a] V fun e w' => e = .returned (.bool false) ∧ w' = V) := fun V hV => dmade (h.kept hV.out)
  have H0 : Hid (Below w.heap.size w w.drew) := (Below.refl _ w).drew
  clear h
  go_enter Try.func14, Try.ntmps14
  go_upto_region 1 with fail
  refine region_assign (fun V => Hid (Below w.heap.size w V)) [(5, .pointer a), (6, .bool false), (7, .bool false), (18, .bool false), (4, .bool false)] _ (by kernel_rfl) (by kernel_rfl) (by kernel_rfl) (by kernel_rfl) rfl H0 ?_ (fun V1 HV1 => ?_)
  · simp only [putAll, Act.put, List.setIfInBounds_toArray, List.set_cons_zero, List.set_cons_succ]
    repeat' (first | exact AllTo.nil | refine AllTo.cons ?_ ?_)
    all_goals first
      | exact stepTo_no (by rfl) rfl
      | (refine stepTo_yes (by rfl) (fun V hV K hK => ?_)
         go_simp
         first
           | exact hK.out _ hV
           | (go_at_call 46; refine (HD.out V hV).mono ?_; rintro e V' ⟨rfl, rfl⟩; exact hK.out _ hV))
  simp only [putAll, Act.put, List.setIfInBounds_toArray, List.set_cons_zero, List.set_cons_succ]
  go_wp2
  go_ret
  exact ⟨rfl, HV1.out⟩
set_option maxRecDepth 10000 in
set_option maxHeartbeats 400000 in
theorem newTally_dead {w : World} {a : Option Addr} (h : Dead w a) :
    Calls Try.prog 9 #[.pointer a] w fun e w' => e = .returned (.pointer none) ∧ w' = w := by
  have HM := hide (made_dead h)
  clear h
  go_enter Try.func9, Try.ntmps9
  go_wp2_with fail
  refine HM.out.mono ?_
  rintro e w1 ⟨rfl, rfl⟩
  go_wp2
  go_ret
  exact ⟨rfl, rfl⟩
set_option maxRecDepth 10000 in
set_option maxHeartbeats 400000 in
theorem newTally_deadB {w : World} {a : Option Addr} (h : Dead w a) :
    Calls Try.prog 34 #[.pointer a] w fun e w' => e = .returned (.pointer none) ∧ w' = w := by
  have HM := hide (made_dead h)
  clear h
  go_enter Try.func34, Try.ntmps34
  go_wp2_with fail
  refine HM.out.mono ?_
  rintro e w1 ⟨rfl, rfl⟩
  go_wp2
  go_ret
  exact ⟨rfl, rfl⟩
set_option maxRecDepth 10000 in
set_option maxHeartbeats 800000 in
theorem noTally_ok {w : World} {a : Option Addr} (h : DeadT w a) :
    Calls Try.prog 35 #[.pointer a] w fun e w' => e = .returned (.bool true) ∧ Below w.heap.size w w' := by
  have H1 := hide (dspeak h 1 0)
  have H2 := hide (ddrop h 1)
  have H3 := hide (dlen h)
  have H4 := hide (dreached h 1)
  have H5 : Hid (∀ V, Below w.heap.size w V → Calls Try.prog 16 #[.pointer a, .int .u64 1] V fun e w' => e = .returned (.int .u32 0) ∧ w' = V) := fun V hV => dnodes (h.kept hV) 1
  clear h
  go_enter Try.func35, Try.ntmps35
  go_wp2_with fail
  refine H1.out.mono ?_
  rintro e w1 ⟨rfl, rfl⟩
  go_wp2_with fail
  refine H2.out.mono ?_
  rintro e w2 ⟨rfl, rfl⟩
  go_wp2_with fail
  refine H3.out.mono ?_
  rintro e w3 ⟨rfl, rfl⟩
  go_wp2_with fail
  refine H4.out.mono ?_
  rintro e w4 ⟨rfl, b4⟩
  have B4 := hide b4
  clear b4
  go_wp2_with fail
  refine (H5.out _ B4.out).mono ?_
  rintro e w5 ⟨rfl, rfl⟩
  go_wp2
  go_ret
  exact ⟨rfl, B4.out⟩
end Go.Proofs.Ythfiafjhnidlkaa
namespace Go.Proofs.Ythfiafjhnidlkaa
open Go.RowKit

/-- What a call may turn. -/
structure Fr (w w' : World) (T : Nat → Prop) : Prop where
  os : w'.os = w.os
  tape : w'.tape = w.tape
  output : w'.output = w.output
  size : w.heap.size ≤ w'.heap.size
  block : ∀ j, j < w.heap.size → ¬ T j → w'.heap[j]? = w.heap[j]?
theorem Fr.trans {a b c : World} {T S : Nat → Prop} (h : Fr a b T) (k : Fr b c S) (hs : ∀ j, j < a.heap.size → S j → T j) : Fr a c T :=
  ⟨k.os.trans h.os, k.tape.trans h.tape, k.output.trans h.output, Nat.le_trans h.size k.size, fun j hj hn => (k.block j (Nat.lt_of_lt_of_le hj h.size) (fun e => hn (hs j hj e))).trans (h.block j hj hn)⟩
theorem Fr.below {a b : World} (h : Below a.heap.size a b) (T : Nat → Prop) : Fr a b T := ⟨h.os, h.tape, h.output, h.size, fun j hj _ => h.block j hj⟩
theorem Fr.grown {a b : World} {x : Nat} (h : a.grownBy b (some x)) {T : Nat → Prop} (ht : T x) : Fr a b T := ⟨h.os, h.tape, h.output, h.size, fun j hj hn => h.block j hj (fun e => hn (by cases e; exact ht))⟩
theorem Fr.rfr {a b : World} {pr : Nat} {v : Value} (h : RFr a b pr v) {T : Nat → Prop} (h1 : T pr) (h2 : ∀ j, v.ownBlock = some j → T j) : Fr a b T := ⟨h.os, h.tape, h.output, h.size, fun j hj hn => h.block j hj (fun e => hn (by rw [e]; exact h1)) (fun e => hn (h2 j e))⟩
theorem TM.same {κ : Type} {Y : KeyK κ} {w w' : World} {b n : Nat} {m : κ → Nat} {p : κ → Bool} (h : TM Y w b n m p) (e : w'.heap[b]? = w.heap[b]?) : TM Y w' b n m p := by
  obtain ⟨D, ⟨es, clock, h1, h2⟩, h3⟩ := h
  exact ⟨D, ⟨es, clock, e.trans h1, h2⟩, h3⟩
theorem TY.fr {w w' : World} {pt b : Nat} {c : Cf} {n : Nat} {m : Nat → Nat} {p : Nat → Bool} (h : TY w pt b c n m p) {T : Nat → Prop} (f : Fr w w' T) (h1 : ¬ T pt) (h2 : ¬ T b) : TY w' pt b c n m p := ⟨(f.block _ (block_lt h.blk) h1).trans h.blk, h.tm.same (f.block _ h.tm.lt h2)⟩
theorem TZ.fr {w w' : World} {pt b : Nat} {c : Cf} {n : Nat} {m : Nat × Int → Nat} {p : Nat × Int → Bool} (h : TZ w pt b c n m p) {T : Nat → Prop} (f : Fr w w' T) (h1 : ¬ T pt) (h2 : ¬ T b) : TZ w' pt b c n m p := ⟨(f.block _ (block_lt h.blk) h1).trans h.blk, h.tm.same (f.block _ h.tm.lt h2)⟩
theorem RT.fr {w w' : World} {pr h B : Nat} {c : Cf} {v : Value} {L : List Kr} (r : RT w pr h B c v L) {T : Nat → Prop} (f : Fr w w' T) (h1 : ¬ T pr) (h2 : ¬ T h) (h3 : ∀ j, v.ownBlock = some j → ¬ T j) : RT w' pr h B c v L := by
  refine ⟨(f.block _ (block_lt r.blk) h1).trans r.blk, ⟨r.row.1, ?_⟩, (f.block _ (block_lt r.gb) h2).trans r.gb, r.ok⟩
  rcases r.row.2 with h0 | ⟨g, cap, cur, e, hb, hg, h4⟩
  · exact .inl h0
  · exact .inr ⟨g, cap, cur, e, hb, (f.block _ (block_lt hg) (h3 g (by rw [e]; rfl))).trans hg, h4⟩
theorem TM.map {κ : Type} {Y : KeyK κ} {w : World} {b n : Nat} {m : κ → Nat} {p : κ → Bool} (h : TM Y w b n m p) : ∃ es clock, w.heap[b]? = some (.map es clock) := by
  obtain ⟨D, ⟨es, clock, h1, h2⟩, h3⟩ := h
  exact ⟨es, clock, h1⟩
/-- Blocks of unlike kinds are not one. -/
theorem RT.not_map {w : World} {pr h B : Nat} {c : Cf} {v : Value} {L : List Kr} (r : RT w pr h B c v L) {b : Nat} {es : Array MapEntry} {clock : Nat} (hb : w.heap[b]? = some (.map es clock)) : pr ≠ b ∧ h ≠ b ∧ v.ownBlock ≠ some b := by
  refine ⟨fun e => ?_, fun e => ?_, fun e => ?_⟩
  · have := r.blk
    rw [e, hb] at this
    cases this
  · have := r.gb
    rw [e, hb] at this
    cases this
  · rcases r.row.2 with ⟨h0, _⟩ | ⟨g, cap, cur, h0, _, hg, _⟩
    · rw [h0] at e; cases e
    · rw [h0] at e
      cases e
      rw [hb] at hg
      cases hg
/-- What a call of Speak does. -/
def SpR {α : Type} [DecidableEq α] (c : Cf) (n : Nat) (m : α → Nat) (p : α → Bool) (k : α) (nd : Int) (a f : Int) (n' : Nat) (m' : α → Nat) (p' : α → Bool) : Prop :=
  (c.node nd = false ∧ a = 0 ∧ f = 182 ∧ n' = n ∧ m' = m ∧ p' = p) ∨ (c.node nd = true ∧ p k = false ∧ 64 ≤ n ∧ a = 0 ∧ f = 185 ∧ n' = n ∧ m' = m ∧ p' = p) ∨
  (c.node nd = true ∧ (p k = true ∨ n < 64) ∧ a = ((countB (withB (m k) nd) : Nat) : Int) ∧ f = 0 ∧ n' = upN (p k) n ∧ m' = upd m k (withB (m k) nd) ∧ p' = upd p k true)
theorem tspeak_all {w : World} {pt b : Nat} {c : Cf} {n : Nat} {m : Nat → Nat} {p : Nat → Bool} (h : TY w pt b c n m p) (hok : c.Ok) (k : Nat) (hk : k < 18446744073709551616) (nd : Int) (hn0 : n ≤ 64) :
    Calls Try.prog 11 #[.pointer (some ⟨pt, 0, none⟩), .int .u64 (k : Nat), .int .i64 nd] w fun e w' => ∃ a f, e = .returned (.tuple #[.int .i64 a, .int .i64 f]) ∧ Hid (∃ n' m' p', TY w' pt b c n' m' p' ∧ w.grownBy w' (some b) ∧ SpR c n m p k nd a f n' m' p') := by
  cases hn : c.node nd with
  | false =>
    refine (tspeak_node h hok k hk nd hn).mono ?_
    rintro e w' ⟨rfl, rfl⟩
    exact ⟨_, _, rfl, n, m, p, h, below_grown (Below.refl _ _) _, .inl ⟨hn, rfl, rfl, rfl, rfl, rfl⟩⟩
  | true =>
    by_cases hf : p k = false ∧ 64 ≤ n
    · refine (tspeak_full h hok k hk nd hn hf.1 hf.2).mono ?_
      rintro e w' ⟨rfl, rfl⟩
      exact ⟨_, _, rfl, n, m, p, h, below_grown (Below.refl _ _) _, .inr (.inl ⟨hn, hf.1, hf.2, rfl, rfl, rfl, rfl, rfl⟩)⟩
    · have h64 : p k = true ∨ n < 64 := by
        cases hp : p k with
        | true => exact .inl rfl
        | false => exact .inr (by by_cases h1 : n < 64; exact h1; exact absurd ⟨hp, by omega⟩ hf)
      refine (tspeak_ok h hok k hk nd hn h64 hn0).mono ?_
      rintro e w' ⟨rfl, h1, h2⟩
      exact ⟨_, _, rfl, _, _, _, h1, h2, .inr (.inr ⟨hn, h64, rfl, rfl, rfl, rfl, rfl⟩)⟩
theorem zspeak_all {w : World} {pt b : Nat} {c : Cf} {n : Nat} {m : Nat × Int → Nat} {p : Nat × Int → Bool} (h : TZ w pt b c n m p) (hok : c.Ok) (k : Nat × Int) (hk : balOk k) (nd : Int) (hn0 : n ≤ 64) :
    Calls Try.prog 63 #[.pointer (some ⟨pt, 0, none⟩), .agg #[.int .u64 (k.1 : Int), .int .i64 k.2], .int .i64 nd] w fun e w' => ∃ a f, e = .returned (.tuple #[.int .i64 a, .int .i64 f]) ∧ Hid (∃ n' m' p', TZ w' pt b c n' m' p' ∧ w.grownBy w' (some b) ∧ SpR c n m p k nd a f n' m' p') := by
  cases hn : c.node nd with
  | false =>
    refine (zspeak_node h hok k hk nd hn).mono ?_
    rintro e w' ⟨rfl, hb⟩
    exact ⟨_, _, rfl, n, m, p, h.kept hb, below_grown hb _, .inl ⟨hn, rfl, rfl, rfl, rfl, rfl⟩⟩
  | true =>
    by_cases hf : p k = false ∧ 64 ≤ n
    · refine (zspeak_full h hok k hk nd hn hf.1 hf.2).mono ?_
      rintro e w' ⟨rfl, hb⟩
      exact ⟨_, _, rfl, n, m, p, h.kept hb, below_grown hb _, .inr (.inl ⟨hn, hf.1, hf.2, rfl, rfl, rfl, rfl, rfl⟩)⟩
    · have h64 : p k = true ∨ n < 64 := by
        cases hp : p k with
        | true => exact .inl rfl
        | false => exact .inr (by by_cases h1 : n < 64; exact h1; exact absurd ⟨hp, by omega⟩ hf)
      refine (zspeak_ok h hok k hk nd hn h64 hn0).mono ?_
      rintro e w' ⟨rfl, h1, h2⟩
      exact ⟨_, _, rfl, _, _, _, h1, h2, .inr (.inr ⟨hn, h64, rfl, rfl, rfl, rfl, rfl⟩)⟩
/-- Where a tally of the reference lies behind a call. -/
def RNx (w w' : World) (pr h B : Nat) (c : Cf) (v : Value) {α : Type} (κ : KR α) (n' : Nat) (m' : α → Nat) (p' : α → Bool) : Prop := ∃ v' L', RT w' pr h B c v' L' ∧ Mat κ n' m' p' L' ∧ RFr w w' pr v ∧ ∀ j, v'.ownBlock = some j → w.heap.size ≤ j ∨ v.ownBlock = some j
theorem rfr_below {w w' : World} (h : Below w.heap.size w w') (pr : Nat) (v : Value) : RFr w w' pr v := ⟨h.os, h.tape, h.output, h.size, fun j hj _ _ => h.block j hj⟩
theorem rspeak_all {w : World} {pr h B : Nat} {c : Cf} {v : Value} {L : List Kr} (r : RT w pr h B c v L) (hB : B ≤ w.heap.size) {α : Type} [DecidableEq α] {κ : KR α} {n : Nat} {m : α → Nat} {p : α → Bool} (hm : Mat κ n m p L) {k : α} {nd a f : Int} {n' : Nat} {m' : α → Nat} {p' : α → Bool} (hs : SpR c n m p k nd a f n' m' p') :
    Calls Try.prog 60 #[.pointer (some ⟨pr, 0, none⟩), .int .u64 (κ.n k : Int), .agg #[.int .u64 (κ.num k : Int), .int .i64 (κ.node k)], .int .i64 nd] w fun e w' => e = .returned (.tuple #[.int .i64 a, .int .i64 f]) ∧ Hid (RNx w w' pr h B c v κ n' m' p') := by
  rcases hs with ⟨hn, rfl, rfl, rfl, rfl, rfl⟩ | ⟨hn, hp, h64, rfl, rfl, rfl, rfl, rfl⟩ | ⟨hn, h64, rfl, rfl, rfl, rfl, rfl⟩
  · refine (rspeak_node r _ _ _ nd hn).mono ?_
    rintro e w' ⟨rfl, hb⟩
    exact ⟨rfl, v, L, r.kept hb, hm, rfr_below hb _ _, fun j hj => .inr hj⟩
  · refine (rspeak_full r (by have := hm.len; have := hm.le; omega) _ _ _ nd hn (hm.no hp).1).mono ?_
    rintro e w' ⟨rfl, hb⟩
    exact ⟨rfl, v, L, r.kept hb, hm, rfr_below hb _ _, fun j hj => .inr hj⟩
  · cases hp : p k with
    | true =>
      obtain ⟨i, x, h1, h2, h3⟩ := hm.yes hp
      refine (rspeak_found r (by have := hm.len; have := hm.le; omega) hm.small hm.apart _ _ _ nd hn h1 h2).mono ?_
      rintro e w' ⟨rfl, h4, h5⟩
      rw [h3] at h4 ⊢
      exact ⟨rfl, v, _, h4, hm.set hp h1 h2 (withB_lt _ _ (hm.sm k)), ⟨h5.os, h5.tape, h5.output, h5.size, fun j hj _ hn => h5.block j hj (fun e => hn e.symm)⟩, fun j hj => .inr hj⟩
    | false =>
      have hlt : n < 64 := by
        rcases h64 with h1 | h1
        · rw [hp] at h1; cases h1
        · exact h1
      have h0 := (hm.no hp).2
      refine (rspeak_new r (by rw [hm.len]; exact hlt) hB _ _ _ nd hn (hm.no hp).1).mono ?_
      rintro e w' ⟨rfl, v', h1, h2, h3⟩
      rw [h0]
      exact ⟨rfl, v', _, h1, hm.snoc hp hlt (withB_lt _ _ (by decide)), h2, h3⟩
theorem rdrop_all {w : World} {pr h B : Nat} {c : Cf} {v : Value} {L : List Kr} (r : RT w pr h B c v L) (hB : B ≤ w.heap.size) {α : Type} [DecidableEq α] {κ : KR α} {n : Nat} {m : α → Nat} {p : α → Bool} (hm : Mat κ n m p L) (k : α) :
    Calls Try.prog 61 #[.pointer (some ⟨pr, 0, none⟩), .int .u64 (κ.n k : Int), .agg #[.int .u64 (κ.num k : Int), .int .i64 (κ.node k)]] w fun e w' => (∃ u, e = .returned u) ∧ Hid (RNx w w' pr h B c v κ (dnN (p k) n) (upd m k 0) (upd p k false)) := by
  refine (rdrop r (by have := hm.len; have := hm.le; omega) hB _ _ _).mono ?_
  rintro e w' ⟨hu, v', h1, h2, h3⟩
  exact ⟨hu, v', _, h1, hm.drop k, ⟨h2.os, h2.tape, h2.output, h2.size, fun j hj hn _ => h2.block j hj (fun e => hn (Option.some.inj e))⟩, fun j hj => .inl (h3 j hj)⟩
end Go.Proofs.Ythfiafjhnidlkaa
namespace Go.Proofs.Ythfiafjhnidlkaa
open Go.RowKit

/-- A step of a script. -/
structure Wd where
  (k : Int) (n bn : Nat) (bm nd : Int)
def Wd.cells (x : Wd) : Array Value := #[.int .i64 x.k, .int .u64 (x.n : Nat), .int .u64 (x.bn : Nat), .int .i64 x.bm, .int .i64 x.nd]
structure Wd.In (x : Wd) : Prop where
  (n : x.n < 18446744073709551616) (bn : x.bn < 18446744073709551616) (b1 : -9223372036854775808 ≤ x.bm) (b2 : x.bm < 9223372036854775808)
/-- A script as it lies. -/
structure Wds (W : World) (b off : Nat) (ws : List Wd) : Prop where
  ok : ∀ x ∈ ws, x.In
  at_ : ∀ i x, ws[i]? = some x → ∀ j v, x.cells[j]? = some v → W.cell? ⟨b, off + i * 5 + j, none⟩ = some v
theorem Wds.kept {W W' : World} {b off B : Nat} {ws : List Wd} (h : Wds W b off ws) (hb : b < B) (hg : Below B W W') : Wds W' b off ws :=
  ⟨h.ok, fun i x hi j v hj => (hg.cell (p := ⟨b, off + i * 5 + j, none⟩) hb).trans (h.at_ i x hi j v hj)⟩
theorem wd_cells {W : World} {p : Nat} {x : Wd} {t : TypeId} (h : W.heap[p]? = some (.cells x.cells t (0, 0))) :
    W.cell? ⟨p, 0, none⟩ = some (.int .i64 x.k) ∧ W.cell? ⟨p, 1, none⟩ = some (.int .u64 (x.n : Nat)) ∧ W.cell? ⟨p, 4, none⟩ = some (.int .i64 x.nd) :=
  ⟨block_cell h 0, block_cell h 1, block_cell h 4⟩
/-- What a step of a script does to the set of a key. -/
def sayS (c : Cf) (x : Wd) (key s : Nat) : Nat := if x.n = key ∧ x.k = 2 then 0 else if x.n = key ∧ x.k < 2 ∧ c.node x.nd = true then withB s x.nd else s
theorem sayS_other {c : Cf} {x : Wd} {key s : Nat} (h : x.n ≠ key) : sayS c x key s = s := by unfold sayS; rw [if_neg (by simp [h]), if_neg (by simp [h])]
theorem sayS_drop {c : Cf} {x : Wd} {key s : Nat} (h : x.n = key) (hk : x.k = 2) : sayS c x key s = 0 := by unfold sayS; rw [if_pos ⟨h, hk⟩]
theorem sayS_say {c : Cf} {x : Wd} {key s : Nat} (h : x.n = key) (hk : x.k < 2) (hn : c.node x.nd = true) : sayS c x key s = withB s x.nd := by unfold sayS; rw [if_neg (by omega), if_pos ⟨h, hk, hn⟩]
theorem sayS_not {c : Cf} {x : Wd} {key s : Nat} (hk : x.k ≠ 2) (hn : c.node x.nd = false) : sayS c x key s = s := by unfold sayS; rw [if_neg (by simp [hk]), if_neg (by simp [hn])]
theorem sayS_none {c : Cf} {x : Wd} {key s : Nat} (hk : x.k > 2) : sayS c x key s = s := by unfold sayS; rw [if_neg (by omega), if_neg (by omega)]
theorem say_drop (c : Cf) (x : Wd) (m : Nat → Nat) (hk : x.k = 2) : upd m x.n 0 = fun key => sayS c x key (m key) := by
  funext key
  unfold upd
  by_cases h : key = x.n
  · rw [if_pos h, sayS_drop h.symm hk]
  · rw [if_neg h, sayS_other (fun e => h e.symm)]
theorem say_say (c : Cf) (x : Wd) (m : Nat → Nat) (hk : x.k < 2) (hn : c.node x.nd = true) : upd m x.n (withB (m x.n) x.nd) = fun key => sayS c x key (m key) := by
  funext key
  unfold upd
  by_cases h : key = x.n
  · rw [if_pos h, sayS_say h.symm hk hn, h]
  · rw [if_neg h, sayS_other (fun e => h e.symm)]
theorem say_not (c : Cf) (x : Wd) (m : Nat → Nat) (hk : x.k ≠ 2) (hn : c.node x.nd = false) : m = fun key => sayS c x key (m key) := by
  funext key; rw [sayS_not hk hn]
theorem say_none (c : Cf) (x : Wd) (m : Nat → Nat) (hk : x.k > 2) : m = fun key => sayS c x key (m key) := by
  funext key; rw [sayS_none hk]
/-- A set of replicas alone. -/
theorem allN_has (f : Int) (hf : f = 1 ∨ f = 2 ∨ f = 3) (i : Nat) (h : (i : Int) < 2 * f + 1) : (allN f).testBit i = true := by
  rcases hf with rfl | rfl | rfl
  · have : i < 3 := by omega
    match i, this with
    | 0, _ => rfl
    | 1, _ => rfl
    | 2, _ => rfl
  · have : i < 5 := by omega
    match i, this with
    | 0, _ => rfl
    | 1, _ => rfl
    | 2, _ => rfl
    | 3, _ => rfl
    | 4, _ => rfl
  · have : i < 7 := by omega
    match i, this with
    | 0, _ => rfl
    | 1, _ => rfl
    | 2, _ => rfl
    | 3, _ => rfl
    | 4, _ => rfl
    | 5, _ => rfl
    | 6, _ => rfl
theorem alone_all {c : Cf} (hk : c.Ok) {nd : Int} (h : c.node nd = true) : aloneB nd &&& allN c.f = aloneB nd := by
  have h1 : 0 ≤ nd ∧ nd < 2 * c.f + 1 := by unfold Cf.node at h; exact of_decide_eq_true h
  have h3 := hk.f3
  unfold aloneB
  rw [if_pos (by omega)]
  apply Nat.eq_of_testBit_eq
  intro i
  rw [Nat.testBit_and]
  by_cases e : nd.toNat = i
  · subst e; rw [allN_has c.f hk.f_cases _ (by omega), Bool.and_true]
  · rw [Nat.testBit_two_pow_of_ne e, Bool.false_and]
theorem with_all {c : Cf} (hk : c.Ok) {nd : Int} (h : c.node nd = true) {s : Nat} (hs : s &&& allN c.f = s) : withB s nd &&& allN c.f = withB s nd := by
  unfold withB
  rw [Nat.and_or_distrib_right, hs, alone_all hk h]
theorem say_all {c : Cf} (hk : c.Ok) (x : Wd) {key s : Nat} (hs : s &&& allN c.f = s) : sayS c x key s &&& allN c.f = sayS c x key s := by
  unfold sayS
  split
  · simp
  · split
    · rename_i _ h; exact with_all hk h.2.2 hs
    · exact hs
theorem say_lt {c : Cf} (x : Wd) {key s : Nat} (hs : s < 4294967296) : sayS c x key s < 4294967296 := by
  unfold sayS
  split
  · omega
  · split
    · exact withB_lt _ _ hs
    · exact hs
theorem maj_count {c : Cf} {s : Nat} (hs : s &&& allN c.f = s) : c.maj s = decide (((countB s : Nat) : Int) ≥ c.f + 1) := by unfold Cf.maj; rw [hs]
/-- All that the law holds at a step: the group, the tally, what was said, the two keys, the configuration. -/
structure SP (w W : World) (c : Cf) (g pt bm ps pk pc a b n : Nat) (m : Nat → Nat) (p : Nat → Bool) (sa sb : Nat) : Prop where
  below : Below w.heap.size w W
  pg : W.heap[g]? = some (.cells c.cells 78 (0, 0))
  ty : TY W pt bm c n m p
  sd : W.heap[ps]? = some (.cells #[.int .u32 (sa : Nat), .int .u32 (sb : Nat)] 33 (0, 0))
  ke : W.heap[pk]? = some (.cells #[.int .u64 (a : Nat), .int .u64 (b : Nat)] 34 (0, 0))
  cf : W.heap[pc]? = some (.cells c.cells 24 (0, 0))
  bge : w.heap.size ≤ bm
  pge : w.heap.size ≤ ps
section
variable {w W W' : World} {c : Cf} {g pt bm ps pk pc a b n n' : Nat} {m m' : Nat → Nat} {p p' : Nat → Bool} {sa sb : Nat}
theorem ne_map {Y : KeyK Nat} {q : Nat} {cs : Array Value} {t : TypeId} {z : Nat × Nat} (h : W.heap[q]? = some (.cells cs t z)) (hm : TM Y W bm n m p) : q ≠ bm := fun e => by
  obtain ⟨D, ⟨es, clock, h1, _⟩, _⟩ := hm
  rw [e, h1] at h
  cases h
theorem SP.kept (h : SP w W c g pt bm ps pk pc a b n m p sa sb) (hb : Below W.heap.size W W') : SP w W' c g pt bm ps pk pc a b n m p sa sb :=
  ⟨h.below.trans (hb.mono h.below.size), (hb.block _ (block_lt h.pg)).trans h.pg, h.ty.kept hb, (hb.block _ (block_lt h.sd)).trans h.sd, (hb.block _ (block_lt h.ke)).trans h.ke, (hb.block _ (block_lt h.cf)).trans h.cf, h.bge, h.pge⟩
theorem SP.turn (h : SP w W c g pt bm ps pk pc a b n m p sa sb) (hg : W.grownBy W' (some bm)) (ht : TY W' pt bm c n' m' p') : SP w W' c g pt bm ps pk pc a b n' m' p' sa sb := by
  have ne := fun {q : Nat} {cs : Array Value} {t : TypeId} {z : Nat × Nat} (hq : W.heap[q]? = some (.cells cs t z)) => (hg.block q (block_lt hq) (by simpa using ne_map hq h.ty.tm)).trans hq
  exact ⟨h.below.grown hg h.below.size (fun k e => by cases e; exact h.bge), ne h.pg, ht, ne h.sd, ne h.ke, ne h.cf, h.bge, h.pge⟩
theorem SP.block (h : SP w W c g pt bm ps pk pc a b n m p sa sb) (hg : W.grownBy W' (some bm)) {q : Nat} {cs : Array Value} {t : TypeId} {z : Nat × Nat} (hq : W.heap[q]? = some (.cells cs t z)) : W'.heap[q]? = some (.cells cs t z) :=
  (hg.block q (block_lt hq) (by simpa using ne_map hq h.ty.tm)).trans hq
theorem set_a {V : World} {q : Nat} {x0 y0 : Value} {t : TypeId} (hr : V.heap[q]? = some (.cells #[x0, y0] t (0, 0))) (x : Value) : (V.setCell ⟨q, 0, none⟩ x).heap[q]? = some (.cells #[x, y0] t (0, 0)) := by
  have s1 := heap_setCell_same V q 0 _ _ x hr
  simp only [List.setIfInBounds_toArray, List.set_cons_zero] at s1
  exact s1
theorem set_b {V : World} {q : Nat} {x0 y0 : Value} {t : TypeId} (hr : V.heap[q]? = some (.cells #[x0, y0] t (0, 0))) (x : Value) : (V.setCell ⟨q, 1, none⟩ x).heap[q]? = some (.cells #[x0, x] t (0, 0)) := by
  have s1 := heap_setCell_same V q 1 _ _ x hr
  simp only [List.setIfInBounds_toArray, List.set_cons_zero, List.set_cons_succ] at s1
  exact s1
theorem SP.set (h : SP w W c g pt bm ps pk pc a b n m p sa sb) (j : Nat) (v : Value) {sa' sb' : Nat} (hs : (W.setCell ⟨ps, j, none⟩ v).heap[ps]? = some (.cells #[.int .u32 (sa' : Nat), .int .u32 (sb' : Nat)] 33 (0, 0))) : SP w (W.setCell ⟨ps, j, none⟩ v) c g pt bm ps pk pc a b n m p sa' sb' := by
  have hg := grown_set W ps j v
  have hsd := h.sd
  have e1 : g ≠ ps := fun e => by have := h.pg; rw [e, hsd] at this; simp at this
  have e2 : pt ≠ ps := fun e => by have := h.ty.blk; rw [e, hsd] at this; simp at this
  have e3 : pk ≠ ps := fun e => by have := h.ke; rw [e, hsd] at this; simp at this
  have e4 : pc ≠ ps := fun e => by have := h.cf; rw [e, hsd] at this; simp at this
  have e5 : ps ≠ bm := ne_map hsd h.ty.tm
  exact ⟨h.below.grown hg h.below.size (fun k e => by cases e; exact h.pge), (hg.block g (block_lt h.pg) (by simpa using e1)).trans h.pg, ⟨(hg.block pt (block_lt h.ty.blk) (by simpa using e2)).trans h.ty.blk, h.ty.tm.kept hg (by simpa using e5.symm)⟩, hs, (hg.block pk (block_lt h.ke) (by simpa using e3)).trans h.ke, (hg.block pc (block_lt h.cf) (by simpa using e4)).trans h.cf, h.bge, h.pge⟩
theorem SP.word (h : SP w W c g pt bm ps pk pc a b n m p sa sb) (j : Nat) (v : Value) {pw : Nat} {x : Wd} (hw : W.heap[pw]? = some (.cells x.cells 38 (0, 0))) : (W.setCell ⟨ps, j, none⟩ v).heap[pw]? = some (.cells x.cells 38 (0, 0)) := by
  have hsd := h.sd
  have e : pw ≠ ps := fun e => by rw [e, hsd] at hw; simp at hw
  exact ((grown_set W ps j v).block pw (block_lt hw) (by simpa using e)).trans hw
end
end Go.Proofs.Ythfiafjhnidlkaa
