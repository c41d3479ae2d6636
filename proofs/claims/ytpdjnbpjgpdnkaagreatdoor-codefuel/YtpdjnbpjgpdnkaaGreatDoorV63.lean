import Derived.Test.YtpdjnbpjgpdnkaaGreatDoorV34
namespace Go.Proofs.YtpdjnbpjgpdnkaaGreatDoor
open Go.RowKit

/-- So much more fuel. -/
def Ms.add (d : Int) (s : Ms) : Ms := { s with left := s.left + d }
theorem ite_add {d : Int} (c : Prop) [Decidable c] {a b a' b' : Ms} (ha : a' = a.add d) (hb : b' = b.add d) : (if c then a' else b') = (if c then a else b).add d := by
 by_cases q : c
 ·rw [if_pos q, if_pos q]; exact ha
 ·rw [if_neg q, if_neg q]; exact hb
theorem pay_add (d : Int) (t : Ms) (a b c : Int) : (t.add d).pay a b c = (t.pay a b c).add d := by
 unfold Ms.pay
 refine ite_add _ rfl (ite_add _ rfl rfl)
section
variable {p : Pv} {k : Kn} {ek ev : Nat → Int} {hd : Int} {s : Ms}
theorem step_add {d : Int} (hn : ¬ ((p.op s.pc.toNat).toNat = 1 ∧ s.left = 0)) (h0 : 0 ≤ s.left) (hd0 : 0 ≤ d) : stepF p ek ev hd (s.add d) = (stepF p ek ev hd s).add d := by
 obtain ⟨o, ho⟩ : ∃ o, (p.op s.pc.toNat).toNat = o := ⟨_, rfl⟩
 rw [ho] at hn
 have ho' : (p.op (s.add d).pc.toNat).toNat = o := ho
 by_cases h1 : o = 1
 ·subst h1
  have hl : ¬ s.left = 0 := fun e => hn ⟨rfl, e⟩
  have hl' : ¬ (s.add d).left = 0 := by show ¬ s.left + d = 0; omega
  unfold stepF
  simp only [ho, ho', if_pos]
  rw [if_neg hl, if_neg hl']
  show Ms.nxt { s with left := s.left + d - 1 } = _
  have e : s.left + d - 1 = s.left - 1 + d := by omega
  rw [e]
  rfl
 ·unfold stepF
  simp only [ho, ho']
  rw [if_neg h1, if_neg h1]
  repeat' (first | rfl | exact pay_add _ _ _ _ _ | refine ite_add _ ?_ ?_)
theorem reck_ne (o : Nat) (a b c : Int) : (reckI o a b c).2 ≠ 2 := by
 unfold reckI
 repeat' split
 all_goals simp
theorem pay_ne {t : Ms} {a b c : Int} (ho : t.ov = false) : (t.pay a b c).ov = true → (t.pay a b c).en ≠ 2 := by
 unfold Ms.pay
 split
 ·exact fun _ => (by decide : (6 : Int) ≠ 2)
 ·split
  ·exact fun _ => (by decide : (5 : Int) ≠ 2)
  ·intro e
   have e2 : t.ov = true := e
   rw [ho] at e2
   cases e2
theorem step_en (ho : s.ov = false) (hn : ¬ ((p.op s.pc.toNat).toNat = 1 ∧ s.left = 0)) : (stepF p ek ev hd s).ov = true → (stepF p ek ev hd s).en ≠ 2 := by
 have ite_n : ∀ (c : Prop) [Decidable c] (a b : Ms), (a.ov = true → a.en ≠ 2) → (b.ov = true → b.en ≠ 2) → (if c then a else b).ov = true → (if c then a else b).en ≠ 2 := fun c _ a b ha hb => by
  by_cases q : c
  ·rw [if_pos q]; exact ha
  ·rw [if_neg q]; exact hb
 have no : s.ov = true → False := fun e => by rw [ho] at e; cases e
 obtain ⟨o, hop⟩ : ∃ o, (p.op s.pc.toNat).toNat = o := ⟨_, rfl⟩
 rw [hop] at hn
 by_cases h1 : o = 1
 ·subst h1
  have hl : ¬ s.left = 0 := fun e => hn ⟨rfl, e⟩
  unfold stepF
  simp only [hop, if_pos]
  rw [if_neg hl]
  exact fun e => (no e).elim
 ·unfold stepF
  simp only [hop]
  rw [if_neg h1]
  repeat' (first | exact fun e => (no e).elim | exact pay_ne ho | exact fun _ => reck_ne _ _ _ _ | exact fun _ => (by decide : (0 : Int) ≠ 2) | exact fun _ => (by decide : (1 : Int) ≠ 2) | apply ite_n)
theorem run_add (he : Me p k ek ev hd) {d : Int} (hd0 : 0 ≤ d) : ∀ (n : Nat) (s : Ms), Tm p k hd s → (s.ov = true → s.en = 2 → s.left = 0) → (runN p ek ev hd n s).ov = true → ((runN p ek ev hd n s).en = 2 ∧ (runN p ek ev hd n s).left = 0) ∨ ((runN p ek ev hd n s).en ≠ 2 ∧ runN p ek ev hd n (s.add d) = (runN p ek ev hd n s).add d)
 | 0, s, _, hq, ho => by
  by_cases e : s.en = 2
  ·exact .inl ⟨e, hq ho e⟩
  ·exact .inr ⟨e, rfl⟩
 | n + 1, s, ht, hq, ho => by
  cases e : s.ov with
  | true =>
   rw [runN_over e] at ho ⊢
   rw [runN_over (s := s.add d) e]
   by_cases e2 : s.en = 2
   ·exact .inl ⟨e2, hq e e2⟩
   ·exact .inr ⟨e2, rfl⟩
  | false =>
   have r1 : runN p ek ev hd (n + 1) s = runN p ek ev hd n (stepF p ek ev hd s) := by
    show (if s.ov = true then s else _) = _
    rw [e]
    rfl
   have r2 : runN p ek ev hd (n + 1) (s.add d) = runN p ek ev hd n (stepF p ek ev hd (s.add d)) := by
    show (if s.ov = true then s.add d else _) = _
    rw [e]
    rfl
   rw [r1] at ho ⊢
   rw [r2]
   by_cases q : (p.op s.pc.toNat).toNat = 1 ∧ s.left = 0
   ·have st : stepF p ek ev hd s = s.stop 2 := by
     unfold stepF
     simp only [q.1, if_pos, q.2]
    rw [st, runN_over rfl]
    exact .inl ⟨rfl, q.2⟩
   ·rw [step_add q ht.l0 hd0]
    exact run_add he hd0 n _ (step_tm he ht e).1 (fun h1 h2 => absurd h2 (step_en e q h1)) ho
end
theorem ld_add {p : Pv} {ev f g : Int} (h1 : f ≤ g) (h2 : g ≤ 1000) : ldS p ev g = (ldS p ev f).add (g - f) := by
 have e1 : min g 1000 = g := by omega
 have e2 : min f 1000 = f := by omega
 have e3 : g = f + (g - f) := by omega
 unfold ldS
 refine ite_add _ ?_ ?_
 ·unfold ld0
  rw [e1, e2]
  show (mk0 _ g).stop 8 = _
  rw [e3]
  have e4 : f + (g - f) - f = g - f := by omega
  rw [e4]
  rfl
 ·unfold ld0
  rw [e1, e2]
  show mk0 _ g = _
  rw [e3]
  have e4 : f + (g - f) - f = g - f := by omega
  rw [e4]
  rfl
theorem fuel_end {p : Pv} {k : Kn} {e : En} {ev f g : Int} (he : e.Ok) (hv : verF p = .ok k) (hC : ∀ j, j < p.nc → 0 ≤ p.C j ∧ p.C j < two64) (hp : isPl ev 6 = true) (h0 : 0 ≤ f) (h1 : f ≤ g) (h2 : g ≤ 1000) :
  ((endS p e (ldS p ev f)).en = 2 ∧ (endS p e (ldS p ev f)).left = 0) ∨ ((endS p e (ldS p ev f)).en ≠ 2 ∧ endS p e (ldS p ev g) = (endS p e (ldS p ev f)).add (g - f)) := by
 have hm := he.me hv hC
 have ht : Tm p k e.x2 (ldS p ev f) := ld_tm hv hp h0 (he.b 2 (by decide)).1
 rw [ld_add h1 h2]
 refine run_add hm (by omega) _ _ ht (fun ho hen => ?_) (end_ov hm ht)
 unfold ldS at hen ho ⊢
 split at hen
 ·cases hen
 ·rename_i hne
  rw [if_neg hne] at ho
  cases ho
end Go.Proofs.YtpdjnbpjgpdnkaaGreatDoor
