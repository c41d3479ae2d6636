import Derived.Test.YtggpaljilpbmhaaGreatDoorZ21
import Derived.Orders
import Derived.OrdersHeld
import Derived.Deep.RegionHeld
namespace Go.Proofs.YtggpaljilpbmhaaGreatDoor
open Go.RowKit

section
variable {P : Program} {ops : Array Oper} {Q : Exit → Act → World → Prop} {S : World → Prop}

/-- In the state in which all has been carried out, an operation leaves that state, in every world that meets S, and S holds behind it. -/
def StepTo (P : Program) (ops : Array Oper) (S : World → Prop) (aF : Act) (o : Oper) : Prop :=
 if Region.wanted o (yielded ops aF.tmps) = true then ∀ w, S w → ∀ K : Act → World → Prop, Hid (∀ w', S w' → K aF w') → Oper.wp P o aF w K (fun _ _ _ => False) else aF.put o.dst undef = aF
def AllTo (P : Program) (ops : Array Oper) (S : World → Prop) (aF : Act) : List Oper → Prop
 | [] => True
 | o :: r => StepTo P ops S aF o ∧ AllTo P ops S aF r
theorem AllTo.nil {aF : Act} : AllTo P ops S aF [] := trivial
theorem AllTo.cons {aF : Act} {o : Oper} {r : List Oper} (h : StepTo P ops S aF o) (g : AllTo P ops S aF r) : AllTo P ops S aF (o :: r) := ⟨h, g⟩
/-- What has been carried out is as it will be. -/
structure PartAct (ops : Array Oper) (aF : Act) (listed : Array Bool) (a : Act) : Prop where
 (df : a.defers = aF.defers) (sz : a.tmps.size = aF.tmps.size)
 (at_ : ∀ t, (∀ (j : Nat) (o : Oper), ops[j]? = some o → o.dst = some t → listed.getD j false = true) → a.tmps[t]? = aF.tmps[t]?)
theorem PartAct.full {aF a : Act} {listed : Array Bool} (h : PartAct ops aF listed a) (hl : ∀ (j : Nat) (o : Oper), ops[j]? = some o → listed.getD j false = true) : a = aF := by
 obtain ⟨t1, d1⟩ := a
 obtain ⟨t2, d2⟩ := aF
 have e1 : t1 = t2 := Array.ext_getElem? (fun i => h.at_ i (fun j o hj _ => hl j o hj))
 have e2 : d1 = d2 := h.df
 rw [e1, e2]
theorem put_same {aF : Act} {d : Nat} {v : Value} (h : aF.put (some d) v = aF) : d < aF.tmps.size → aF.tmps[d]? = some v := fun hd => by
 have h1 : aF.tmps.setIfInBounds d v = aF.tmps := congrArg Act.tmps h
 rw [← h1]
 simp [hd]
theorem PartAct.next {aF a : Act} {listed : Array Bool} {i : Nat} {o : Oper} {v : Value} (h : PartAct ops aF listed a) (ho : ops[i]? = some o) (hv : aF.put o.dst v = aF) : PartAct ops aF (listed.setIfInBounds i true) (a.put o.dst v) := by
 have back : ∀ (t j : Nat), j ≠ i → (listed.setIfInBounds i true).getD j false = true → listed.getD j false = true := fun t j hj hl => by
  rw [getD_set_ne false (Ne.symm hj)] at hl; exact hl
 cases hd : o.dst with
 | none =>
  refine ⟨h.df, h.sz, fun t ht => h.at_ t (fun j oj hj hdj => ?_)⟩
  have hne : j ≠ i := fun e => by subst e; rw [ho] at hj; cases hj; rw [hd] at hdj; cases hdj
  exact back t j hne (ht j oj hj hdj)
 | some d =>
  rw [hd] at hv
  refine ⟨h.df, by simpa [Act.put] using h.sz, fun t ht => ?_⟩
  by_cases htd : t = d
  ·subst htd
   rcases Nat.lt_or_ge t aF.tmps.size with hlt | hge
   ·rw [put_same hv hlt]
    have : t < a.tmps.size := by rw [h.sz]; exact hlt
    simp [Act.put, this]
   ·rw [Array.getElem?_eq_none hge, Array.getElem?_eq_none (by simpa [Act.put, h.sz] using hge)]
  ·have e : (a.put (some d) v).tmps[t]? = a.tmps[t]? := by simp [Act.put, Array.getElem?_setIfInBounds_ne (Ne.symm htd)]
   rw [e]
   refine h.at_ t (fun j oj hj hdj => ?_)
   have hne : j ≠ i := fun e => by subst e; rw [ho] at hj; cases hj; rw [hd] at hdj; cases hdj; exact htd rfl
   exact back t j hne (ht j oj hj hdj)
end
end Go.Proofs.YtggpaljilpbmhaaGreatDoor
namespace Go.Proofs.YtggpaljilpbmhaaGreatDoor
open Go.RowKit

section
variable {P : Program} {ops : Array Oper} {Q : Exit → Act → World → Prop} {S : Bool → World → Prop}

/-- As StepTo, from S to S'. -/
def StepFro (P : Program) (ops : Array Oper) (S S' : World → Prop) (aF : Act) (o : Oper) : Prop :=
 Region.wanted o (yielded ops aF.tmps) = true ∧ ∀ w, S w → ∀ K : Act → World → Prop, Hid (∀ w', S' w' → K aF w') → Oper.wp P o aF w K (fun _ _ _ => False)
/-- The operations from number k on: number j leads from S false to S true, each other keeps S. -/
def AllFro (P : Program) (ops : Array Oper) (S : Bool → World → Prop) (aF : Act) (j : Nat) : Nat → List Oper → Prop
 | _, [] => True
 | k, o :: r => (if k = j then StepFro P ops (S false) (S true) aF o else ∀ b, StepTo P ops (S b) aF o) ∧ AllFro P ops S aF j (k + 1) r
theorem AllFro.nil {aF : Act} {j k : Nat} : AllFro P ops S aF j k [] := trivial
theorem AllFro.at_ {aF : Act} {j k : Nat} {o : Oper} {r : List Oper} (e : k = j) (h : StepFro P ops (S false) (S true) aF o) (g : AllFro P ops S aF j (k + 1) r) : AllFro P ops S aF j k (o :: r) := ⟨by rw [if_pos e]; exact h, g⟩
theorem AllFro.off {aF : Act} {j k : Nat} {o : Oper} {r : List Oper} (e : k ≠ j) (h : ∀ b, StepTo P ops (S b) aF o) (g : AllFro P ops S aF j (k + 1) r) : AllFro P ops S aF j k (o :: r) := ⟨by rw [if_neg e]; exact h, g⟩
end
end Go.Proofs.YtggpaljilpbmhaaGreatDoor
namespace Go.Proofs.YtggpaljilpbmhaaGreatDoor
open Go.RowKit

section
variable {P : Program} {ops : Array Oper} {Q : Exit → Act → World → Prop} {S : Bool → Bool → World → Prop}

/-- As AllFro, with two operations that change the world, the second of which waits for the first. -/
def AllFroW (P : Program) (ops : Array Oper) (S : Bool → Bool → World → Prop) (aF : Act) (j j2 : Nat) : Nat → List Oper → Prop
 | _, [] => True
 | k, o :: r => (if k = j then ∀ b, StepFro P ops (S false b) (S true b) aF o else if k = j2 then StepFro P ops (S true false) (S true true) aF o else ∀ b b2, StepTo P ops (S b b2) aF o) ∧ AllFroW P ops S aF j j2 (k + 1) r
theorem AllFroW.nil {aF : Act} {j j2 k : Nat} : AllFroW P ops S aF j j2 k [] := trivial
theorem AllFroW.off {aF : Act} {j j2 k : Nat} {o : Oper} {r : List Oper} (n : k ≠ j) (e : k ≠ j2) (h : ∀ b b2, StepTo P ops (S b b2) aF o) (g : AllFroW P ops S aF j j2 (k + 1) r) : AllFroW P ops S aF j j2 k (o :: r) := ⟨by rw [if_neg n, if_neg e]; exact h, g⟩
/-- Operation j2 waits for operation j. -/
def waits (ops : Array Oper) (j2 j : Nat) : Bool := match ops[j2]? with
 | none => true
 | some o => o.after.any fun e => Region.binds .any e && e.on == j
end
end Go.Proofs.YtggpaljilpbmhaaGreatDoor
namespace Go.Proofs.YtggpaljilpbmhaaGreatDoor
open Go.RowKit

section
variable {P : Program} {ops : Array Oper} {Q : Exit → Act → World → Prop} {md : Region.Mode} {g : Nat} {S1 S2 : World → Prop}

/-- S1 as long as number g has not come up, S2 always. -/
def SSg (g : Nat) (S1 S2 : World → Prop) (listed : Array Bool) (w : World) : Prop := (listed.getD g true = false → S1 w) ∧ S2 w
/-- Whatever order is picked from here on; S1 holds behind every operation ahead of number g, S2 behind every one. -/
def wpAnyL (P : Program) (md : Region.Mode) (ops : Array Oper) (Q : Exit → Act → World → Prop) (g : Nat) (S1 S2 : World → Prop) : Nat → Array Bool → Act → World → Prop
 | 0, listed, a, w => Region.ready md ops listed = [] ∧ Q .normal a w
 | fuel + 1, listed, a, w =>
  (Region.ready md ops listed = [] → Q .normal a w) ∧
  ∀ i ∈ Region.ready md ops listed, wpOp P ops Q i (fun a' w' => SSg g S1 S2 (listed.setIfInBounds i true) w' ∧ wpAnyL P md ops Q g S1 S2 fuel (listed.setIfInBounds i true) a' w') a w
theorem wpAny_of_L : ∀ (fuel : Nat) (listed : Array Bool) (a : Act) (w : World), wpAnyL P md ops Q g S1 S2 fuel listed a w → wpAny P md ops Q fuel listed a w
 | 0, _, _, _, h => h
 | fuel + 1, _, _, _, h => ⟨h.1, fun i hi => wpOp_mono (fun a' w' h' => wpAny_of_L fuel _ a' w' h'.2) (h.2 i hi)⟩
theorem ssg_set {i : Nat} (hig : i ≠ g) (listed : Array Bool) (w : World) : SSg g S1 S2 (listed.setIfInBounds i true) w ↔ SSg g S1 S2 listed w := by
 unfold SSg
 rw [getD_set_ne true hig]
/-- An operation that may come up now may be taken first. -/
theorem wpAnyL_first {T : World → Prop} {G : Array Bool → Prop} {i : Nat} {oi : Oper} {v : Value} (hi : ops[i]? = some oi) (hig : i ≠ g) (hsel : ∀ (j : Nat) (o : Oper) cs b, ops[j]? = some o → o.op ≠ .select cs b)
  (hQ : ∀ c a w, Q (.panic c) (a.put oi.dst v) w → Q (.panic c) a w) (hGT : ∀ listed w, G listed → SSg g S1 S2 listed w → T w)
  (hGs : ∀ listed j oj, G listed → ops[j]? = some oj → j ≠ i → (∀ e ∈ oj.after, Region.binds md e = true → e.on ≠ i) → G (listed.setIfInBounds j true)) :
  ∀ (fuel : Nat) (listed : Array Bool) (a : Act) (w : World),
   (∀ j oj, ops[j]? = some oj → j ≠ i → listed.getD j true = false → (∀ e ∈ oj.after, Region.binds md e = true → e.on ≠ i) → oi.apart ops oj = true) →
   i ∈ Region.ready md ops listed → YieldsIf P ops T oi v a → G listed → SSg g S1 S2 listed w →
   wpAnyL P md ops Q g S1 S2 fuel (listed.setIfInBounds i true) (a.put oi.dst v) w → wpAnyL P md ops Q g S1 S2 (fuel + 1) listed a w := by
 intro fuel
 induction fuel with
 | zero =>
  intro listed a w _ hr hy hG hS H
  refine ⟨fun h => (by rw [h] at hr; cases hr), fun j hj => ?_⟩
  by_cases hji : j = i
  ·subst hji; exact hy.wpOp hi (hGT _ _ hG hS) ⟨(ssg_set hig _ _).2 hS, H⟩
  ·have := ready_mono hj hji
   rw [H.1] at this
   cases this
 | succ fuel ih =>
  intro listed a w hfree hr hy hG hS H
  refine ⟨fun h => (by rw [h] at hr; cases hr), fun j hj => ?_⟩
  by_cases hji : j = i
  ·subst hji; exact hy.wpOp hi (hGT _ _ hG hS) ⟨(ssg_set hig _ _).2 hS, H⟩
  ·have h1 := H.2 j (ready_mono hj hji)
   obtain ⟨hjun, oj, hoj, hall⟩ := mem_ready.1 hj
   have hnot : ∀ e ∈ oj.after, Region.binds md e = true → e.on ≠ i := fun e he hb heq => by
    have h1 := hall e he hb
    have h0 := (mem_ready.1 hr).1
    rw [heq] at h1
    rcases Nat.lt_or_ge i listed.size with h' | h'
    ·simp [h'] at h0 h1; rw [h0] at h1; cases h1
    ·simp [Array.getElem?_eq_none h'] at h1
   have h2 := wpOp_putIf hoj (hfree j oj hoj hji hjun hnot) (fun cs b => hsel i oi cs b hi) (fun cs b => hsel j oj cs b hoj) hQ hy h1
   have hfree' : ∀ k ok, ops[k]? = some ok → k ≠ i → (listed.setIfInBounds j true).getD k true = false →
     (∀ e ∈ ok.after, Region.binds md e = true → e.on ≠ i) → oi.apart ops ok = true := fun k ok hk hki hun hno => by
    refine hfree k ok hk hki ?_ hno
    by_cases hjk : j = k
    ·subst hjk; exact hjun
    ·rw [getD_set_ne true hjk] at hun; exact hun
   refine wpOp_mono (fun a' w' h3 => ?_) h2
   have hS' : SSg g S1 S2 (listed.setIfInBounds j true) w' := by
    have := h3.2.1
    rw [Array.setIfInBounds_comm _ _ (Ne.symm hji)] at this
    exact (ssg_set hig _ _).1 this
   refine ⟨hS', ih (listed.setIfInBounds j true) a' w' hfree' (ready_mono hr (Ne.symm hji)) h3.1 (hGs _ _ _ hG hoj hji hnot) hS' ?_⟩
   rw [Array.setIfInBounds_comm _ _ hji]
   exact h3.2.2
/-- Taken first where S2 tells its value. -/
theorem wpAnyL_take {i : Nat} {oi : Oper} {v : Value} {fuel : Nat} {listed : Array Bool} {a : Act} {w : World} (hi : ops[i]? = some oi) (hig : i ≠ g)
  (hs : Region.noSelect ops = true) (hf : Region.free md ops listed i = true) (hr : (Region.ready md ops listed).contains i = true)
  (hQ : ∀ c a w, Q (.panic c) (a.put oi.dst v) w → Q (.panic c) a w) (hy : YieldsIf P ops S2 oi v a) (hS : SSg g S1 S2 listed w)
  (h : SSg g S1 S2 (listed.setIfInBounds i true) w → wpAnyL P md ops Q g S1 S2 fuel (listed.setIfInBounds i true) (a.put oi.dst v) w) : wpAnyL P md ops Q g S1 S2 (fuel + 1) listed a w :=
 wpAnyL_first (T := S2) (G := fun _ => True) hi hig (Region.noSelect_spec hs) hQ (fun _ _ _ h => h.2) (fun _ _ _ _ _ _ _ => trivial) fuel listed a w (Region.free_spec hi hf) (by simpa using hr) hy trivial hS (h ((ssg_set hig _ _).2 hS))
/-- Taken first where S1 tells its value: number g waits for it. -/
theorem wpAnyL_take1 {i : Nat} {oi : Oper} {v : Value} {fuel : Nat} {listed : Array Bool} {a : Act} {w : World} (hi : ops[i]? = some oi) (hig : i ≠ g)
  (hs : Region.noSelect ops = true) (hf : Region.free md ops listed i = true) (hr : (Region.ready md ops listed).contains i = true)
  (hQ : ∀ c a w, Q (.panic c) (a.put oi.dst v) w → Q (.panic c) a w) (hy : YieldsIf P ops S1 oi v a) (hS : SSg g S1 S2 listed w)
  (hg : listed.getD g true = false) {og : Oper} (hog : ops[g]? = some og) (hw : (og.after.any fun e => Region.binds md e && e.on == i) = true)
  (h : SSg g S1 S2 (listed.setIfInBounds i true) w → wpAnyL P md ops Q g S1 S2 fuel (listed.setIfInBounds i true) (a.put oi.dst v) w) : wpAnyL P md ops Q g S1 S2 (fuel + 1) listed a w :=
 wpAnyL_first (T := S1) (G := fun l => l.getD g true = false) hi hig (Region.noSelect_spec hs) hQ (fun _ _ hG h => h.1 hG) (fun l j oj hG hj _ hno => by
  by_cases e : j = g
  ·subst e
   rw [hog] at hj
   cases hj
   rw [Array.any_eq_true] at hw
   obtain ⟨k, hk, h3⟩ := hw
   simp only [Bool.and_eq_true, beq_iff_eq] at h3
   exact absurd h3.2 (hno _ (Array.getElem_mem hk) h3.1)
  ·show (l.setIfInBounds j true).getD g true = false
   rw [getD_set_ne true e]
   exact hG) fuel listed a w (Region.free_spec hi hf) (by simpa using hr) hy hg hS (h ((ssg_set hig _ _).2 hS))
/-- Only number i may come up next. -/
theorem wpAnyL_one {i : Nat} {o : Oper} {fuel : Nat} {listed : Array Bool} {a : Act} {w : World} (hr : Region.ready md ops listed = [i]) (ho : ops[i]? = some o)
  (h : ∀ K' : Act → World → Prop, Shut (∀ a w, SSg g S1 S2 (listed.setIfInBounds i true) w → wpAnyL P md ops Q g S1 S2 fuel (listed.setIfInBounds i true) a w → K' a w) → if Region.wanted o (yielded ops a.tmps) = true then Oper.wp P o a w K' Q else K' (a.put o.dst undef) w) : wpAnyL P md ops Q g S1 S2 (fuel + 1) listed a w := by
 refine ⟨fun h0 => (by rw [h0] at hr; cases hr), fun j hj => ?_⟩
 rw [hr] at hj
 simp at hj
 subst hj
 exact wpOp_step ho (fun K' hK => h K' (fun a w hS hW => hK a w ⟨hS, hW⟩))
theorem wpAnyL_done {listed : Array Bool} {a : Act} {w : World} (hr : Region.ready md ops listed = []) (h : Q .normal a w) : ∀ fuel, wpAnyL P md ops Q g S1 S2 fuel listed a w
 | 0 => ⟨hr, h⟩
 | _ + 1 => ⟨fun _ => h, by rw [hr]; simp⟩
theorem wp_region_L {id : Nat} {a : Act} {w : World} (g : Nat) (S1 S2 : World → Prop) (hm : P.follows .mixedOrders = true) (h1 : S1 w.drew) (h2 : S2 w.drew)
  (h : SSg g S1 S2 (Array.replicate ops.size false) w.drew → wpAnyL P .any ops Q g S1 S2 ops.size (Array.replicate ops.size false) a w.drew) : (Code.region id ops true).wp P Q a w :=
 wp_region_any hm (wpAny_of_L _ _ _ _ (h ⟨fun _ => h1, h2⟩))
end
end Go.Proofs.YtggpaljilpbmhaaGreatDoor
