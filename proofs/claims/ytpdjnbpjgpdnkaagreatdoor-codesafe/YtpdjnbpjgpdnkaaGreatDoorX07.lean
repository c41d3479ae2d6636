import Derived.Test.YtpdjnbpjgpdnkaaGreatDoorX03
import Derived.Orders
import Derived.OrdersHeld
import Derived.Deep.RegionHeld
namespace Go.Proofs.YtpdjnbpjgpdnkaaGreatDoor
open Go.RowKit

section
variable {P : Program} {ops : Array Oper} {Q : Exit → Act → World → Prop} {S : World → Prop}

/-- In the state in which all has been carried out, an operation leaves that state, in every world that meets S, and S holds behind it. -/
def StepTo (P : Program) (ops : Array Oper) (S : World → Prop) (aF : Act) (o : Oper) : Prop :=
 if Region.wanted o (yielded ops aF.tmps) = true then ∀ w, S w → ∀ K : Act → World → Prop, Hid (∀ w', S w' → K aF w') → Oper.wp P o aF w K (fun _ _ _ => False) else aF.put o.dst undef = aF
def AllTo (P : Program) (ops : Array Oper) (S : World → Prop) (aF : Act) : List Oper → Prop
 | [] => True
 | o :: r => StepTo P ops S aF o ∧ AllTo P ops S aF r
theorem AllTo.nil {aF : Act} : AllTo P ops S aF [] := trivial
theorem AllTo.cons {aF : Act} {o : Oper} {r : List Oper} (h : StepTo P ops S aF o) (g : AllTo P ops S aF r) : AllTo P ops S aF (o :: r) := ⟨h, g⟩
/-- What has been carried out is as it will be. -/
structure PartAct (ops : Array Oper) (aF : Act) (listed : Array Bool) (a : Act) : Prop where
 (df : a.defers = aF.defers) (sz : a.tmps.size = aF.tmps.size)
 (at_ : ∀ t, (∀ (j : Nat) (o : Oper), ops[j]? = some o → o.dst = some t → listed.getD j false = true) → a.tmps[t]? = aF.tmps[t]?)
theorem PartAct.full {aF a : Act} {listed : Array Bool} (h : PartAct ops aF listed a) (hl : ∀ (j : Nat) (o : Oper), ops[j]? = some o → listed.getD j false = true) : a = aF := by
 obtain ⟨t1, d1⟩ := a
 obtain ⟨t2, d2⟩ := aF
 have e1 : t1 = t2 := Array.ext_getElem? (fun i => h.at_ i (fun j o hj _ => hl j o hj))
 have e2 : d1 = d2 := h.df
 rw [e1, e2]
theorem put_same {aF : Act} {d : Nat} {v : Value} (h : aF.put (some d) v = aF) : d < aF.tmps.size → aF.tmps[d]? = some v := fun hd => by
 have h1 : aF.tmps.setIfInBounds d v = aF.tmps := congrArg Act.tmps h
 rw [← h1]
 simp [hd]
theorem PartAct.next {aF a : Act} {listed : Array Bool} {i : Nat} {o : Oper} {v : Value} (h : PartAct ops aF listed a) (ho : ops[i]? = some o) (hv : aF.put o.dst v = aF) : PartAct ops aF (listed.setIfInBounds i true) (a.put o.dst v) := by
 have back : ∀ (t j : Nat), j ≠ i → (listed.setIfInBounds i true).getD j false = true → listed.getD j false = true := fun t j hj hl => by
  rw [getD_set_ne false (Ne.symm hj)] at hl; exact hl
 cases hd : o.dst with
 | none =>
  refine ⟨h.df, h.sz, fun t ht => h.at_ t (fun j oj hj hdj => ?_)⟩
  have hne : j ≠ i := fun e => by subst e; rw [ho] at hj; cases hj; rw [hd] at hdj; cases hdj
  exact back t j hne (ht j oj hj hdj)
 | some d =>
  rw [hd] at hv
  refine ⟨h.df, by simpa [Act.put] using h.sz, fun t ht => ?_⟩
  by_cases htd : t = d
  ·subst htd
   rcases Nat.lt_or_ge t aF.tmps.size with hlt | hge
   ·rw [put_same hv hlt]
    have : t < a.tmps.size := by rw [h.sz]; exact hlt
    simp [Act.put, this]
   ·rw [Array.getElem?_eq_none hge, Array.getElem?_eq_none (by simpa [Act.put, h.sz] using hge)]
  ·have e : (a.put (some d) v).tmps[t]? = a.tmps[t]? := by simp [Act.put, Array.getElem?_setIfInBounds_ne (Ne.symm htd)]
   rw [e]
   refine h.at_ t (fun j oj hj hdj => ?_)
   have hne : j ≠ i := fun e => by subst e; rw [ho] at hj; cases hj; rw [hd] at hdj; cases hdj; exact htd rfl
   exact back t j hne (ht j oj hj hdj)
end
end Go.Proofs.YtpdjnbpjgpdnkaaGreatDoor
namespace Go.Proofs.YtpdjnbpjgpdnkaaGreatDoor
open Go.RowKit

section
variable {P : Program} {ops : Array Oper} {Q : Exit → Act → World → Prop} {S : Bool → World → Prop}

/-- As StepTo, from S to S'. -/
def StepFro (P : Program) (ops : Array Oper) (S S' : World → Prop) (aF : Act) (o : Oper) : Prop :=
 Region.wanted o (yielded ops aF.tmps) = true ∧ ∀ w, S w → ∀ K : Act → World → Prop, Hid (∀ w', S' w' → K aF w') → Oper.wp P o aF w K (fun _ _ _ => False)
/-- The operations from number k on: number j leads from S false to S true, each other keeps S. -/
def AllFro (P : Program) (ops : Array Oper) (S : Bool → World → Prop) (aF : Act) (j : Nat) : Nat → List Oper → Prop
 | _, [] => True
 | k, o :: r => (if k = j then StepFro P ops (S false) (S true) aF o else ∀ b, StepTo P ops (S b) aF o) ∧ AllFro P ops S aF j (k + 1) r
theorem AllFro.nil {aF : Act} {j k : Nat} : AllFro P ops S aF j k [] := trivial
theorem AllFro.at_ {aF : Act} {j k : Nat} {o : Oper} {r : List Oper} (e : k = j) (h : StepFro P ops (S false) (S true) aF o) (g : AllFro P ops S aF j (k + 1) r) : AllFro P ops S aF j k (o :: r) := ⟨by rw [if_pos e]; exact h, g⟩
theorem AllFro.off {aF : Act} {j k : Nat} {o : Oper} {r : List Oper} (e : k ≠ j) (h : ∀ b, StepTo P ops (S b) aF o) (g : AllFro P ops S aF j (k + 1) r) : AllFro P ops S aF j k (o :: r) := ⟨by rw [if_neg e]; exact h, g⟩
end
end Go.Proofs.YtpdjnbpjgpdnkaaGreatDoor
namespace Go.Proofs.YtpdjnbpjgpdnkaaGreatDoor
open Go.RowKit

section
variable {P : Program} {ops : Array Oper} {Q : Exit → Act → World → Prop} {S : Bool → Bool → World → Prop}

/-- As AllFro, with two operations that change the world, the second of which waits for the first. -/
def AllFroW (P : Program) (ops : Array Oper) (S : Bool → Bool → World → Prop) (aF : Act) (j j2 : Nat) : Nat → List Oper → Prop
 | _, [] => True
 | k, o :: r => (if k = j then ∀ b, StepFro P ops (S false b) (S true b) aF o else if k = j2 then StepFro P ops (S true false) (S true true) aF o else ∀ b b2, StepTo P ops (S b b2) aF o) ∧ AllFroW P ops S aF j j2 (k + 1) r
theorem AllFroW.nil {aF : Act} {j j2 k : Nat} : AllFroW P ops S aF j j2 k [] := trivial
theorem AllFroW.off {aF : Act} {j j2 k : Nat} {o : Oper} {r : List Oper} (n : k ≠ j) (e : k ≠ j2) (h : ∀ b b2, StepTo P ops (S b b2) aF o) (g : AllFroW P ops S aF j j2 (k + 1) r) : AllFroW P ops S aF j j2 k (o :: r) := ⟨by rw [if_neg n, if_neg e]; exact h, g⟩
/-- Operation j2 waits for operation j. -/
def waits (ops : Array Oper) (j2 j : Nat) : Bool := match ops[j2]? with
 | none => true
 | some o => o.after.any fun e => Region.binds .any e && e.on == j
end
end Go.Proofs.YtpdjnbpjgpdnkaaGreatDoor
