import Derived.Test.YtmoklddfaocihaaDoorV37
import Derived.Test.YtmoklddfaocihaaDoorV39
namespace Go.Proofs.YtmoklddfaocihaaDoor
open Go.RowKit

section
variable {p : Pv} {k : Kn} {ek ev : Nat → Int} {hd : Int} {s : Ms}
theorem pay_fail (t : Ms) (a b c : Int) : (t.pay a b c).fail = t.fail := by
 unfold Ms.pay
 split
 ·rfl
 ·split <;> rfl
/-- What a rule fails with is a number. -/
theorem step_fail (he : Me p k ek ev hd) (ht : Tm p k hd s) (ho : s.ov = false) (h : 0 ≤ s.fail ∧ s.fail < two64) : 0 ≤ (stepF p ek ev hd s).fail ∧ (stepF p ek ev hd s).fail < two64 := by
 obtain ⟨i, l, hpc, hi, hki, hst⟩ := ht.run ho
 have hin := (he.wf.ins i hi).a
 have e : s.pc.toNat = i := by omega
 obtain ⟨o, hop⟩ : ∃ o, (p.op i).toNat = o := ⟨_, rfl⟩
 rw [hop] at hin
 have hf : o = 30 ∨ o = 31 → 0 ≤ p.arg i ∧ p.arg i < two64 := fun q => by
  have hx : (decide (1 ≤ p.arg i) && decide (p.arg i ≤ 999)) = true := by
   rcases q with rfl | rfl
   ·simpa [argF, fArg, formT] using hin
   ·simpa [argF, fArg, formT] using hin
  simp at hx
  unfold two64
  omega
 have key : (stepF p ek ev hd s).fail = s.fail ∨ ((o = 30 ∨ o = 31) ∧ (stepF p ek ev hd s).fail = p.arg i) := by
  have hop2 : (p.op s.pc.toNat).toNat = o := by rw [e]; exact hop
  by_cases q30 : o = 30
  ·subst q30
   rw [st30 hop2]
   by_cases q : s.top 0 = 1
   ·rw [if_pos q]; exact .inl rfl
   ·rw [if_neg q]; exact .inr ⟨.inl rfl, by show p.arg s.pc.toNat = _; rw [e]⟩
  ·by_cases q31 : o = 31
   ·subst q31
    rw [st31 hop2]
    exact .inr ⟨.inr rfl, by show p.arg s.pc.toNat = _; rw [e]⟩
   ·left
    have ite_fail : ∀ (c : Prop) [Decidable c] (a b : Ms), a.fail = s.fail → b.fail = s.fail → (if c then a else b).fail = s.fail := fun c _ a b ha hb => by
     by_cases q : c
     ·rw [if_pos q]; exact ha
     ·rw [if_neg q]; exact hb
    unfold stepF
    simp only [hop2]
    rw [if_neg q30, if_neg q31]
    repeat' (first | rfl | exact pay_fail _ _ _ _ | apply ite_fail)
 rcases key with q | ⟨q, e1⟩
 ·rw [q]; exact h
 ·rw [e1]; exact hf q
end
end Go.Proofs.YtmoklddfaocihaaDoor
namespace Go.Proofs.YtmoklddfaocihaaDoor
open Go.RowKit

theorem ld_fail (p : Pv) (ev fuel : Int) : 0 ≤ (ldS p ev fuel).fail ∧ (ldS p ev fuel).fail < two64 := by
 have e : (ldS p ev fuel).fail = 0 := by
  unfold ldS
  split <;> rfl
 rw [e]
 exact ⟨Int.le_refl _, by decide⟩
end Go.Proofs.YtmoklddfaocihaaDoor
