import Derived.Test.YtojknconkmplkaaJAc
namespace Go.Proofs.Ytojknconkmplkaa
open Go.RowKit Crc

theorem maj_none {c : Cf} (hk : c.Ok) : c.maj 0 = false := by
  unfold Cf.maj
  have h1 := hk.f1
  have e : countB (0 &&& allN c.f) = 0 := by rw [Nat.zero_and]; decide
  simp only [e]
  exact decide_eq_false (by omega)
theorem maj_mono {c : Cf} {s : Nat} (n : Int) (h : c.maj s = true) : c.maj (withB s n) = true := by
  have hle : countB (s &&& allN c.f) ≤ countB (withB s n &&& allN c.f) := by
    unfold countB memU
    rw [List.length_map, List.length_map, ← List.countP_eq_length_filter, ← List.countP_eq_length_filter]
    refine List.countP_mono_left fun x _ hx => ?_
    rw [Nat.testBit_and] at hx ⊢
    unfold withB
    rw [Nat.testBit_or]
    simp at hx ⊢
    exact ⟨.inl hx.1, hx.2⟩
  unfold Cf.maj at h ⊢
  have h' := of_decide_eq_true h
  exact decide_eq_true (by omega)
/-- The ballot's number of a vote for a slot. -/
def vnum (c : Cf) (slot : Nat) : Nat := if c.mn < 1 + slot % 2 then 1 else 1 + slot % 2
def vrs (slot : Nat) : List (Nat × Nat × List Nat) := [(256 + slot % 5, 1 + slot % 3, [slot % 256])]
/-- A vote for a slot. -/
def vm (c : Cf) (slot : Nat) : Mw := ⟨7, vnum c slot, ((slot % 3 : Nat) : Int), slot, slot % 7, vrs slot⟩
theorem vnum_pos (c : Cf) (slot : Nat) : 1 ≤ vnum c slot := by unfold vnum; split <;> omega
/-- B x: who has voted for x; u: what the learner holds. -/
structure InvU (c : Cf) (B : Nat → Nat) (u : Nat → Jv) : Prop where
  zero : ∀ x, B x = 0 → u x = Jv.zero
  num : ∀ x, B x ≠ 0 → (u x).num = vnum c x ∧ (u x).node = ((x % 3 : Nat) : Int) ∧ (u x).st = x % 7 ∧ (u x).rs = vrs x
  maj : ∀ x, B x ≠ 0 → c.maj (u x).fr = c.maj (B x)
  fr : ∀ x, B x ≠ 0 → c.maj (B x) = false → (u x).fr = B x
  pos : ∀ x, B x ≠ 0 → 0 < (u x).fr
theorem InvU.start (c : Cf) : InvU c (fun _ => 0) (fun _ => Jv.zero) := ⟨fun _ _ => rfl, fun _ h => absurd rfl h, fun _ h => absurd rfl h, fun _ h => absurd rfl h, fun _ h => absurd rfl h⟩
/-- Who has voted, behind one more vote. -/
def seenB (c : Cf) (B : Nat → Nat) (src slot : Nat) : Nat → Nat := if cntB c 0 src (vm c slot) = true then updT B slot (withB (B slot) (src : Int)) else B
theorem cnt_src {c : Cf} (hk : c.Ok) {src slot : Nat} (h : cntB c 0 src (vm c slot) = true) : (0 : Int) ≤ src ∧ (src : Int) < 32 := by
  unfold cntB at h
  simp only [Bool.and_eq_true, decide_eq_true_eq] at h
  have h1 := h.1.1.1.1.1.1.2
  have h2 := hk.f3
  omega
theorem cnt_slot {c : Cf} {src slot : Nat} (h : cntB c 0 src (vm c slot) = true) : slot < 16 := by
  unfold cntB vm at h
  simp only [Bool.and_eq_true, decide_eq_true_eq] at h
  have := h.1.1.2
  omega
theorem InvU.put {c : Cf} {B : Nat → Nat} {u : Nat → Jv} (h : InvU c B u) (slot b : Nat) (t : Jv) (hb : b ≠ 0) (h1 : t.num = vnum c slot ∧ t.node = ((slot % 3 : Nat) : Int) ∧ t.st = slot % 7 ∧ t.rs = vrs slot) (h2 : c.maj t.fr = c.maj b) (h3 : c.maj b = false → t.fr = b) (h4 : 0 < t.fr) : InvU c (updT B slot b) (updT u slot t) := by
  refine ⟨fun x hx => ?_, fun x hx => ?_, fun x hx => ?_, fun x hx hm => ?_, fun x hx => ?_⟩
  all_goals unfold updT at *
  all_goals by_cases e : x = slot
  · rw [if_pos e] at hx; exact absurd hx hb
  · rw [if_neg e] at hx ⊢; exact h.zero x hx
  · subst e; rw [if_pos rfl]; exact h1
  · rw [if_neg e] at hx ⊢; exact h.num x hx
  · subst e; rw [if_pos rfl, if_pos rfl]; exact h2
  · rw [if_neg e] at hx; rw [if_neg e, if_neg e]; exact h.maj x hx
  · subst e; rw [if_pos rfl] at hm; rw [if_pos rfl, if_pos rfl]; exact h3 hm
  · rw [if_neg e] at hx hm; rw [if_neg e, if_neg e]; exact h.fr x hx hm
  · subst e; rw [if_pos rfl]; exact h4
  · rw [if_neg e] at hx ⊢; exact h.pos x hx
theorem updT_self {β : Type} (m : Nat → β) (k : Nat) : updT m k (m k) = m := by
  funext x
  unfold updT
  split
  · rename_i e; rw [e]
  · rfl
theorem InvU.step {c : Cf} (hk : c.Ok) {B : Nat → Nat} {u : Nat → Jv} (h : InvU c B u) (src slot : Nat) : InvU c (seenB c B src slot) (accF c 0 u src (vm c slot)).2 := by
  unfold seenB accF
  by_cases hc : cntB c 0 src (vm c slot) = true
  rotate_left
  · rw [if_neg hc, if_pos (by simpa using hc)]
    exact h
  rw [if_pos hc, if_neg (by rw [hc]; simp)]
  obtain ⟨r0, r1⟩ := cnt_src hk hc
  have hw : withB (B slot) (src : Int) ≠ 0 := by have := withB_pos (B slot) (src : Int) r0 r1; omega
  have hsl : (vm c slot).slot = slot := rfl
  simp only [hsl]
  by_cases hB : B slot = 0
  · have hz := h.zero slot hB
    have e1 : ¬ c.maj (u slot).fr = true := by rw [hz]; have := maj_none hk; simp [Jv.zero, this]
    have e2 : cmpB ((u slot).num : Int) (u slot).node ((vm c slot).num : Int) (vm c slot).node < 0 := by
      rw [hz]
      have := vnum_pos c slot
      unfold cmpB vm Jv.zero
      simp only
      rw [if_neg (by omega), if_pos (by omega)]
      omega
    rw [if_neg e1, if_pos e2, hB]
    have hw' : withB 0 (src : Int) ≠ 0 := by have := withB_pos 0 (src : Int) r0 r1; omega
    exact h.put slot _ _ hw' ⟨rfl, rfl, rfl, rfl⟩ rfl (fun _ => rfl) (withB_pos 0 (src : Int) r0 r1)
  · obtain ⟨n1, n2, n3, n4⟩ := h.num slot hB
    have hmj := h.maj slot hB
    by_cases hm : c.maj (u slot).fr = true
    · rw [if_pos hm]
      have hmb : c.maj (B slot) = true := by rw [← hmj]; exact hm
      have := h.put slot (withB (B slot) (src : Int)) (u slot) hw ⟨n1, n2, n3, n4⟩ (by rw [hm, maj_mono _ hmb]) (fun e => by rw [maj_mono _ hmb] at e; cases e) (h.pos slot hB)
      rw [updT_self] at this
      exact this
    · rw [if_neg hm]
      have hmf : c.maj (B slot) = false := by rw [← hmj]; simpa using hm
      have hfr := h.fr slot hB hmf
      have e2 : ¬ cmpB ((u slot).num : Int) (u slot).node ((vm c slot).num : Int) (vm c slot).node < 0 := by
        rw [n1, n2]
        unfold cmpB vm
        simp
      rw [if_neg e2]
      by_cases hh : hasB (u slot).fr (src : Int) = false
      · rw [if_pos ⟨n1, n2, hh, n3, n4⟩, hfr]
        exact h.put slot _ _ hw ⟨n1, n2, n3, n4⟩ rfl (fun _ => rfl) (withB_pos _ _ r0 r1)
      · rw [if_neg (fun e => hh e.2.2.1)]
        have hs : withB (B slot) (src : Int) = B slot := by
          have ht : (B slot).testBit src = true := by
            rw [hfr] at hh
            unfold hasB at hh
            rw [decide_eq_true (by omega)] at hh
            simpa using hh
          unfold withB aloneB
          rw [if_pos ⟨r0, r1⟩]
          apply Nat.eq_of_testBit_eq
          intro i
          rw [Nat.testBit_or, Int.toNat_natCast, Nat.testBit_two_pow]
          by_cases e : src = i
          · subst e; simp [ht]
          · simp [e]
        rw [hs, updT_self]
        exact h
/-- Of the votes vs those with numbers in P have come. -/
def Came (c : Cf) (vs : List (Nat × Nat)) (P : Nat → Prop) (B : Nat → Nat) : Prop := ∀ x i, (B x).testBit i = true ↔ ∃ k v, P k ∧ vs[k]? = some v ∧ cntB c 0 v.1 (vm c v.2) = true ∧ v.2 = x ∧ v.1 = i
theorem Came.start (c : Cf) (vs : List (Nat × Nat)) : Came c vs (fun _ => False) (fun _ => 0) := fun x i => by simp
theorem Came.congr {c : Cf} {vs : List (Nat × Nat)} {P Q : Nat → Prop} {B : Nat → Nat} (h : Came c vs P B) (hPQ : ∀ k, k < vs.length → (P k ↔ Q k)) : Came c vs Q B := fun x i => by
  rw [h x i]
  constructor
  · rintro ⟨k, v, h1, h2, h3⟩; exact ⟨k, v, (hPQ k (List.getElem?_eq_some_iff.1 h2).1).1 h1, h2, h3⟩
  · rintro ⟨k, v, h1, h2, h3⟩; exact ⟨k, v, (hPQ k (List.getElem?_eq_some_iff.1 h2).1).2 h1, h2, h3⟩
theorem Came.step {c : Cf} (hk : c.Ok) {vs : List (Nat × Nat)} {P : Nat → Prop} {B : Nat → Nat} (h : Came c vs P B) {k : Nat} {v : Nat × Nat} (hv : vs[k]? = some v) : Came c vs (fun j => P j ∨ j = k) (seenB c B v.1 v.2) := fun x i => by
  unfold seenB
  by_cases hc : cntB c 0 v.1 (vm c v.2) = true
  · rw [if_pos hc]
    obtain ⟨r0, r1⟩ := cnt_src hk hc
    unfold updT
    by_cases e : x = v.2
    · subst e
      rw [if_pos rfl]
      unfold withB aloneB
      rw [if_pos ⟨r0, r1⟩, Nat.testBit_or, Int.toNat_natCast, Nat.testBit_two_pow, Bool.or_eq_true, h v.2 i]
      constructor
      · rintro (⟨j, w, h1, h2⟩ | h1)
        · exact ⟨j, w, .inl h1, h2⟩
        · exact ⟨k, v, .inr rfl, hv, hc, rfl, of_decide_eq_true h1⟩
      · rintro ⟨j, w, h1 | h1, h2, h3, h4, h5⟩
        · exact .inl ⟨j, w, h1, h2, h3, h4, h5⟩
        · subst h1
          rw [hv] at h2
          cases h2
          exact .inr (decide_eq_true h5)
    · rw [if_neg e, h x i]
      constructor
      · rintro ⟨j, w, h1, h2⟩; exact ⟨j, w, .inl h1, h2⟩
      · rintro ⟨j, w, h1 | h1, h2, h3, h4, h5⟩
        · exact ⟨j, w, h1, h2, h3, h4, h5⟩
        · subst h1
          rw [hv] at h2
          cases h2
          exact absurd h4.symm e
  · rw [if_neg hc, h x i]
    constructor
    · rintro ⟨j, w, h1, h2⟩; exact ⟨j, w, .inl h1, h2⟩
    · rintro ⟨j, w, h1 | h1, h2, h3, h4⟩
      · exact ⟨j, w, h1, h2, h3, h4⟩
      · subst h1
        rw [hv] at h2
        cases h2
        exact absurd h3 hc
theorem Came.eq {c : Cf} {vs : List (Nat × Nat)} {P : Nat → Prop} {B B' : Nat → Nat} (h : Came c vs P B) (h' : Came c vs P B') : B = B' := by
  funext x
  apply Nat.eq_of_testBit_eq
  intro i
  have := (h x i).trans (h' x i).symm
  cases h1 : (B x).testBit i <;> cases h2 : (B' x).testBit i <;> simp_all
theorem Came.few {c : Cf} {vs : List (Nat × Nat)} {P : Nat → Prop} {B : Nat → Nat} (h : Came c vs P B) {x : Nat} (hx : B x ≠ 0) : x < 16 := by
  obtain ⟨i, hi⟩ : ∃ i, (B x).testBit i = true := Nat.exists_testBit_of_ne_zero hx
  obtain ⟨k, v, _, _, h3, h4, _⟩ := (h x i).1 hi
  rw [← h4]
  exact cnt_slot h3
end Go.Proofs.Ytojknconkmplkaa
