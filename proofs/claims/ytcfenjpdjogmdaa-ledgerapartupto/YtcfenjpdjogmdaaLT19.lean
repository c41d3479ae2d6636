import Derived.Test.YtcfenjpdjogmdaaLT09
import Derived.Orders
import Derived.OrdersHeld
import Derived.Deep.RegionHeld
namespace Go.Proofs.Ytcfenjpdjogmdaa
open Go.RowKit

section
variable {P : Program} {ops : Array Oper} {Q : Exit → Act → World → Prop} {S : World → Prop}

/-- In the state in which all has been carried out, an operation leaves that state, in every world that meets S, and S holds behind it. -/
def StepTo (P : Program) (ops : Array Oper) (S : World → Prop) (aF : Act) (o : Oper) : Prop :=
  if Region.wanted o (yielded ops aF.tmps) = true then ∀ w, S w → ∀ K : Act → World → Prop, Hid (∀ w', S w' → K aF w') → Oper.wp P o aF w K (fun _ _ _ => False) else aF.put o.dst undef = aF
theorem stepTo_yes {aF : Act} {o : Oper} (h : Region.wanted o (yielded ops aF.tmps) = true) (g : ∀ w, S w → ∀ K : Act → World → Prop, Hid (∀ w', S w' → K aF w') → Oper.wp P o aF w K (fun _ _ _ => False)) : StepTo P ops S aF o := by
  unfold StepTo; rw [if_pos h]; exact g
def AllTo (P : Program) (ops : Array Oper) (S : World → Prop) (aF : Act) : List Oper → Prop
  | [] => True
  | o :: r => StepTo P ops S aF o ∧ AllTo P ops S aF r
theorem AllTo.nil {aF : Act} : AllTo P ops S aF [] := trivial
theorem AllTo.cons {aF : Act} {o : Oper} {r : List Oper} (h : StepTo P ops S aF o) (g : AllTo P ops S aF r) : AllTo P ops S aF (o :: r) := ⟨h, g⟩
theorem AllTo.mem {aF : Act} : ∀ {l : List Oper} (_ : AllTo P ops S aF l) (o : Oper), o ∈ l → StepTo P ops S aF o
  | [], _, _, h => by cases h
  | x :: r, ⟨h1, h2⟩, o, h => by
    rcases List.mem_cons.1 h with rfl | h
    · exact h1
    · exact AllTo.mem h2 o h
/-- Who looks at a slot waits for all that write it; nobody waits for a later one; nobody selects. -/
def linOk (ops : Array Oper) : Bool :=
  (List.range ops.size).all fun i => match ops[i]? with
    | none => true
    | some o => (o.looksAt ops).all (fun t => (List.range ops.size).all fun j => match ops[j]? with
        | none => true
        | some oj => oj.dst != some t || o.after.any fun e => Region.binds .any e && e.on == j) && o.after.all (fun e => !Region.binds .any e || decide (e.on < i))
theorem linOk_at (h : linOk ops = true) {i : Nat} {o : Oper} (ho : ops[i]? = some o) :
    (∀ t ∈ o.looksAt ops, ∀ (j : Nat) (oj : Oper), ops[j]? = some oj → oj.dst = some t → ∃ e ∈ o.after, Region.binds .any e = true ∧ e.on = j) ∧ ∀ e ∈ o.after, Region.binds .any e = true → e.on < i := by
  have hi : i < ops.size := (Array.getElem?_eq_some_iff.1 ho).1
  unfold linOk at h
  have h1 := List.all_eq_true.1 h i (List.mem_range.2 hi)
  simp only [ho, Bool.and_eq_true] at h1
  refine ⟨fun t ht j oj hj hd => ?_, fun e he hb => ?_⟩
  · have h2 := List.all_eq_true.1 (List.all_eq_true.1 h1.1 t ht) j (List.mem_range.2 (Array.getElem?_eq_some_iff.1 hj).1)
    simp only [hj, hd, bne_self_eq_false, Bool.false_or, Array.any_eq_true] at h2
    obtain ⟨k, hk, h3⟩ := h2
    simp only [Bool.and_eq_true, beq_iff_eq] at h3
    exact ⟨_, Array.getElem_mem hk, h3⟩
  · have h2 := Array.all_eq_true_iff_forall_mem.1 h1.2 e he
    simpa [hb] using h2
/-- What has been carried out is as it will be. -/
structure PartAct (ops : Array Oper) (aF : Act) (listed : Array Bool) (a : Act) : Prop where
  (df : a.defers = aF.defers) (sz : a.tmps.size = aF.tmps.size)
  (at_ : ∀ t, (∀ (j : Nat) (o : Oper), ops[j]? = some o → o.dst = some t → listed.getD j false = true) → a.tmps[t]? = aF.tmps[t]?)
theorem PartAct.full {aF a : Act} {listed : Array Bool} (h : PartAct ops aF listed a) (hl : ∀ (j : Nat) (o : Oper), ops[j]? = some o → listed.getD j false = true) : a = aF := by
  obtain ⟨t1, d1⟩ := a
  obtain ⟨t2, d2⟩ := aF
  have e1 : t1 = t2 := Array.ext_getElem? (fun i => h.at_ i (fun j o hj _ => hl j o hj))
  have e2 : d1 = d2 := h.df
  rw [e1, e2]
theorem put_same {aF : Act} {d : Nat} {v : Value} (h : aF.put (some d) v = aF) : d < aF.tmps.size → aF.tmps[d]? = some v := fun hd => by
  have h1 : aF.tmps.setIfInBounds d v = aF.tmps := congrArg Act.tmps h
  rw [← h1]
  simp [hd]
theorem PartAct.next {aF a : Act} {listed : Array Bool} {i : Nat} {o : Oper} {v : Value} (h : PartAct ops aF listed a) (ho : ops[i]? = some o) (hv : aF.put o.dst v = aF) : PartAct ops aF (listed.setIfInBounds i true) (a.put o.dst v) := by
  have back : ∀ (t j : Nat), j ≠ i → (listed.setIfInBounds i true).getD j false = true → listed.getD j false = true := fun t j hj hl => by
    rw [getD_set_ne false (Ne.symm hj)] at hl; exact hl
  cases hd : o.dst with
  | none =>
    refine ⟨h.df, h.sz, fun t ht => h.at_ t (fun j oj hj hdj => ?_)⟩
    have hne : j ≠ i := fun e => by subst e; rw [ho] at hj; cases hj; rw [hd] at hdj; cases hdj
    exact back t j hne (ht j oj hj hdj)
  | some d =>
    rw [hd] at hv
    refine ⟨h.df, by simpa [Act.put] using h.sz, fun t ht => ?_⟩
    by_cases htd : t = d
    · subst htd
      rcases Nat.lt_or_ge t aF.tmps.size with hlt | hge
      · rw [put_same hv hlt]
        have : t < a.tmps.size := by rw [h.sz]; exact hlt
        simp [Act.put, this]
      · rw [Array.getElem?_eq_none hge, Array.getElem?_eq_none (by simpa [Act.put, h.sz] using hge)]
    · have e : (a.put (some d) v).tmps[t]? = a.tmps[t]? := by simp [Act.put, Array.getElem?_setIfInBounds_ne (Ne.symm htd)]
      rw [e]
      refine h.at_ t (fun j oj hj hdj => ?_)
      have hne : j ≠ i := fun e => by subst e; rw [ho] at hj; cases hj; rw [hd] at hdj; cases hdj; exact htd rfl
      exact back t j hne (ht j oj hj hdj)
theorem eval_part {aF a : Act} {x : Operand} (h : ∀ t, x = .tmp t → a.tmps[t]? = aF.tmps[t]?) : a.eval x = aF.eval x := by
  cases x with
  | tmp t => simp only [Act.eval, Array.getD_eq_getD_getElem?]; rw [h t rfl]
  | _ => rfl
theorem PartAct.exec {aF a : Act} {listed : Array Bool} {i : Nat} {o : Oper} (h : PartAct ops aF listed a) (hk : linOk ops = true) (hs : ∀ cs b, o.op ≠ .select cs b) (ho : ops[i]? = some o) (hr : i ∈ Region.ready .any ops listed) :
    execOp a.eval o = execOp aF.eval o ∧ Region.wanted o (yielded ops a.tmps) = Region.wanted o (yielded ops aF.tmps) := by
  obtain ⟨_, o', ho', hall⟩ := mem_ready.1 hr
  rw [ho] at ho'
  cases ho'
  have look : ∀ t ∈ o.looksAt ops, a.tmps[t]? = aF.tmps[t]? := fun t ht => h.at_ t (fun j oj hj hd => by
    obtain ⟨e, he, hb, rfl⟩ := (linOk_at hk ho).1 t ht j oj hj hd
    exact hall e he hb)
  refine ⟨execOp_congr o hs (fun x hx => eval_part (fun t e => look t ?_)), ?_⟩
  · subst e
    exact List.mem_append_left _ (List.mem_filterMap.2 ⟨.tmp t, by simpa using hx, rfl⟩)
  · unfold Region.wanted
    cases hg : o.guard with
    | none => rfl
    | some gw =>
      obtain ⟨g, want⟩ := gw
      have hy : yielded ops a.tmps g = yielded ops aF.tmps g := by
        unfold yielded
        cases ht : (ops[g]?).bind (·.dst) with
        | none => rfl
        | some t =>
          have := look t (by simp [Oper.looksAt, hg, ht])
          simp only [Option.bind_some, this]
      simp only [hy]
theorem wp_part {o : Oper} {a aF : Act} {w : World} {K : Act → World → Prop} (he : execOp a.eval o = execOp aF.eval o) (h : Oper.wp P o aF w (fun a' w' => a' = aF ∧ S w') (fun _ _ _ => False))
    (hK : ∀ v w', aF.put o.dst v = aF → S w' → K (a.put o.dst v) w') : Oper.wp P o a w K Q := by
  unfold Oper.wp at *
  rw [he]
  generalize (execOp aF.eval o).run P w = r at *
  cases r with
  | ok n w' =>
    cases n <;> simp only [Oper.upon] at h ⊢
    case value v => exact hK v w' h.1 h.2
    case skip => exact hK undef w' h.1 h.2
    case defer d =>
      exfalso
      have h1 := congrArg Act.defers h.1
      have h2 : ({ aF with defers := d :: aF.defers } : Act).defers = aF.defers := by cases hd : o.dst <;> simp only [hd, Act.put] at h1 <;> exact h1
      have h3 : (d :: aF.defers).length = aF.defers.length := congrArg List.length h2
      simp at h3
    case enter f args =>
      refine Calls.mono h fun e w'' he => ?_
      cases e with
      | returned u => exact hK u w'' he.1 he.2
      | panicked c => exact he.elim
      | outgrown => obtain ⟨_, _, h0⟩ := he; exact h0.elim
    case row row args => exact Rows.mono h fun u w'' he => hK u w'' he.1 he.2
    all_goals exact h
  | halt x w' =>
    cases x <;> simp only [Oper.upon] at h ⊢
def unl (ops : Array Oper) (listed : Array Bool) : List Nat := (List.range ops.size).filter fun i => !listed.getD i true
theorem unl_set {listed : Array Bool} {i : Nat} (hi : i < ops.size) (hl : listed.getD i true = false) : (unl ops (listed.setIfInBounds i true)).length < (unl ops listed).length := by
  have e : unl ops (listed.setIfInBounds i true) = (unl ops listed).filter (fun j => j != i) := by
    unfold unl
    rw [List.filter_filter]
    refine List.filter_congr (fun j _ => ?_)
    by_cases h : j = i
    · subst h
      have hlt : j < listed.size := by
        rcases Nat.lt_or_ge j listed.size with h' | h'
        · exact h'
        · simp [Array.getElem?_eq_none h'] at hl
      simp [hlt]
    · rw [getD_set_ne true (Ne.symm h)]
      simp [h]
  rw [e, List.length_filter_lt_length_iff_exists]
  exact ⟨i, List.mem_filter.2 ⟨List.mem_range.2 hi, by rw [hl]; rfl⟩, by simp⟩
theorem ready_nil (hk : linOk ops = true) {listed : Array Bool} (hsz : listed.size = ops.size) (h : Region.ready .any ops listed = []) : ∀ (j : Nat) (o : Oper), ops[j]? = some o → listed.getD j false = true := by
  intro j
  induction j using Nat.strongRecOn with
  | ind j ih =>
    intro o ho
    have hj : j < listed.size := by rw [hsz]; exact (Array.getElem?_eq_some_iff.1 ho).1
    cases hl : listed.getD j false with
    | true => rfl
    | false =>
      exfalso
      have hr : j ∈ Region.ready .any ops listed := mem_ready.2 ⟨by simp [hj] at hl ⊢; exact hl, o, ho, fun e he hb => by
        have hlt := (linOk_at hk ho).2 e he hb
        have hlt2 : e.on < ops.size := by have := (Array.getElem?_eq_some_iff.1 ho).1; omega
        exact ih e.on hlt _ (Array.getElem?_eq_getElem hlt2)⟩
      rw [h] at hr
      cases hr
theorem any_assign {aF : Act} (hk : linOk ops = true) (hs : Region.noSelect ops = true) (hst : AllTo P ops S aF ops.toList) (hend : ∀ w, S w → Q .normal aF w) :
    ∀ (fuel : Nat) (listed : Array Bool) (a : Act) (w : World), (unl ops listed).length ≤ fuel → listed.size = ops.size → PartAct ops aF listed a → S w → wpAny P .any ops Q fuel listed a w := by
  intro fuel
  induction fuel with
  | zero =>
    intro listed a w hf hsz hp hS
    have h0 : unl ops listed = [] := List.eq_nil_of_length_eq_zero (by omega)
    have hr : Region.ready .any ops listed = [] := by
      cases hr : Region.ready .any ops listed with
      | nil => rfl
      | cons x r =>
        have hx := mem_ready.1 (show x ∈ Region.ready .any ops listed by rw [hr]; simp)
        obtain ⟨hx1, o, ho, _⟩ := hx
        have : x ∈ unl ops listed := List.mem_filter.2 ⟨List.mem_range.2 (Array.getElem?_eq_some_iff.1 ho).1, by rw [hx1]; rfl⟩
        rw [h0] at this
        cases this
    exact ⟨hr, by rw [hp.full (ready_nil hk hsz hr)]; exact hend w hS⟩
  | succ fuel ih =>
    intro listed a w hf hsz hp hS
    refine ⟨fun hr => by rw [hp.full (ready_nil hk hsz hr)]; exact hend w hS, fun i hi => ?_⟩
    obtain ⟨hun, o, ho, hall⟩ := mem_ready.1 hi
    have hns := Region.noSelect_spec hs
    obtain ⟨he, hw⟩ := hp.exec hk (fun cs b => hns i o cs b ho) ho hi
    have hlt : i < ops.size := (Array.getElem?_eq_some_iff.1 ho).1
    have next : ∀ v w', aF.put o.dst v = aF → S w' → wpAny P .any ops Q fuel (listed.setIfInBounds i true) (a.put o.dst v) w' := fun v w' hv hS' =>
      ih _ _ _ (by have := unl_set hlt hun; omega) (by simpa using hsz) (hp.next ho hv) hS'
    have hso := hst.mem o (by rw [Array.mem_toList_iff]; exact Array.mem_of_getElem? ho)
    unfold wpOp
    simp only [ho]
    unfold StepTo at hso
    rw [hw]
    split
    · rename_i hwa
      rw [if_pos hwa] at hso
      exact .inl (wp_part he (hso w hS (fun a' w' => a' = aF ∧ S w') (fun w' h' => ⟨rfl, h'⟩)) next)
    · rename_i hwa
      rw [if_neg hwa] at hso
      exact next undef w hso hS
def putAll (a : Act) : List (Nat × Value) → Act
  | [] => a
  | (d, v) :: r => putAll (a.put (some d) v) r
theorem putAll_part : ∀ (vs : List (Nat × Value)) (a : Act), (putAll a vs).defers = a.defers ∧ (putAll a vs).tmps.size = a.tmps.size ∧ ∀ t, (∀ p ∈ vs, p.1 ≠ t) → (putAll a vs).tmps[t]? = a.tmps[t]?
  | [], a => ⟨rfl, rfl, fun _ _ => rfl⟩
  | (d, v) :: r, a => by
    obtain ⟨h1, h2, h3⟩ := putAll_part r (a.put (some d) v)
    refine ⟨h1, h2.trans (by simp [Act.put]), fun t ht => ?_⟩
    have hne : d ≠ t := ht (d, v) (by simp)
    exact (h3 t (fun p hp => ht p (by simp [hp]))).trans (by simp [Act.put, Array.getElem?_setIfInBounds_ne hne])
/-- A region that draws its order, whose values do not hang on it: what each operation leaves is said ahead (vs: slots and values); each then is looked at once, in the state in which all has been carried out. -/
theorem region_assign {id : Nat} {a : Act} {w : World} (S : World → Prop) (vs : List (Nat × Value)) (aF : Act) (hm : P.follows .mixedOrders = true) (hk : linOk ops = true) (hs : Region.noSelect ops = true)
    (hv : (vs.all fun p => ops.any fun o => o.dst == some p.1) = true) (hF : putAll a vs = aF) (hS : S w.drew)
    (hst : AllTo P ops S aF ops.toList) (hend : ∀ w, S w → Q .normal aF w) : (Code.region id ops true).wp P Q a w := by
  refine wp_region_any hm (any_assign hk hs hst hend _ _ _ _ ?_ (by simp) ?_ hS)
  · unfold unl
    exact Nat.le_trans (List.length_filter_le _ _) (by simp)
  · obtain ⟨h1, h2, h3⟩ := putAll_part vs a
    rw [hF] at h1 h2 h3
    refine ⟨h1.symm, h2.symm, fun t ht => (h3 t (fun p hp e => ?_)).symm⟩
    have h4 := List.all_eq_true.1 hv p hp
    rw [Array.any_eq_true] at h4
    obtain ⟨k, hk', h5⟩ := h4
    have h6 := ht k ops[k] (Array.getElem?_eq_getElem hk') (by rw [← e]; simpa using h5)
    simp at h6
    have := h6
    rw [Array.getElem?_replicate] at this
    split at this <;> simp at this
end
end Go.Proofs.Ytcfenjpdjogmdaa
namespace Go.Proofs.Ytcfenjpdjogmdaa
open Go.RowKit

section
variable {P : Program} {ops : Array Oper} {Q : Exit → Act → World → Prop} {S : Bool → World → Prop}

/-- As StepTo, from S to S'. -/
def StepFro (P : Program) (ops : Array Oper) (S S' : World → Prop) (aF : Act) (o : Oper) : Prop :=
  Region.wanted o (yielded ops aF.tmps) = true ∧ ∀ w, S w → ∀ K : Act → World → Prop, Hid (∀ w', S' w' → K aF w') → Oper.wp P o aF w K (fun _ _ _ => False)
/-- The operations from number k on: number j leads from S false to S true, each other keeps S. -/
def AllFro (P : Program) (ops : Array Oper) (S : Bool → World → Prop) (aF : Act) (j : Nat) : Nat → List Oper → Prop
  | _, [] => True
  | k, o :: r => (if k = j then StepFro P ops (S false) (S true) aF o else ∀ b, StepTo P ops (S b) aF o) ∧ AllFro P ops S aF j (k + 1) r
theorem AllFro.nil {aF : Act} {j k : Nat} : AllFro P ops S aF j k [] := trivial
theorem AllFro.at_ {aF : Act} {j k : Nat} {o : Oper} {r : List Oper} (e : k = j) (h : StepFro P ops (S false) (S true) aF o) (g : AllFro P ops S aF j (k + 1) r) : AllFro P ops S aF j k (o :: r) := ⟨by rw [if_pos e]; exact h, g⟩
theorem AllFro.off {aF : Act} {j k : Nat} {o : Oper} {r : List Oper} (e : k ≠ j) (h : ∀ b, StepTo P ops (S b) aF o) (g : AllFro P ops S aF j (k + 1) r) : AllFro P ops S aF j k (o :: r) := ⟨by rw [if_neg e]; exact h, g⟩
theorem AllFro.mem {aF : Act} {j : Nat} : ∀ {l : List Oper} {k : Nat} (_ : AllFro P ops S aF j k l) (i : Nat) (o : Oper), l[i]? = some o → if k + i = j then StepFro P ops (S false) (S true) aF o else ∀ b, StepTo P ops (S b) aF o
  | [], _, _, _, _, h => by simp at h
  | x :: r, k, ⟨h1, _⟩, 0, o, h => by simp at h; subst h; exact h1
  | x :: r, k, ⟨_, h2⟩, i + 1, o, h => by
    have := AllFro.mem h2 i o (by simpa using h)
    rw [show k + 1 + i = k + (i + 1) by omega] at this
    exact this
theorem any_assign1 {aF : Act} {j : Nat} (hj : j < ops.size) (hk : linOk ops = true) (hs : Region.noSelect ops = true) (hst : AllFro P ops S aF j 0 ops.toList) (hend : ∀ w, S true w → Q .normal aF w) :
    ∀ (fuel : Nat) (listed : Array Bool) (a : Act) (w : World), (unl ops listed).length ≤ fuel → listed.size = ops.size → PartAct ops aF listed a → S (listed.getD j false) w → wpAny P .any ops Q fuel listed a w := by
  intro fuel
  have fin : ∀ (listed : Array Bool) (a : Act) (w : World), listed.size = ops.size → PartAct ops aF listed a → S (listed.getD j false) w → Region.ready .any ops listed = [] → Q .normal a w := fun listed a w hsz hp hS hr => by
    have hl := ready_nil hk hsz hr
    rw [hp.full hl]
    rw [hl j _ (Array.getElem?_eq_getElem hj)] at hS
    exact hend w hS
  induction fuel with
  | zero =>
    intro listed a w hf hsz hp hS
    have h0 : unl ops listed = [] := List.eq_nil_of_length_eq_zero (by omega)
    have hr : Region.ready .any ops listed = [] := by
      cases hr : Region.ready .any ops listed with
      | nil => rfl
      | cons x r =>
        have hx := mem_ready.1 (show x ∈ Region.ready .any ops listed by rw [hr]; simp)
        obtain ⟨hx1, o, ho, _⟩ := hx
        have : x ∈ unl ops listed := List.mem_filter.2 ⟨List.mem_range.2 (Array.getElem?_eq_some_iff.1 ho).1, by rw [hx1]; rfl⟩
        rw [h0] at this
        cases this
    exact ⟨hr, fin listed a w hsz hp hS hr⟩
  | succ fuel ih =>
    intro listed a w hf hsz hp hS
    refine ⟨fin listed a w hsz hp hS, fun i hi => ?_⟩
    obtain ⟨hun, o, ho, hall⟩ := mem_ready.1 hi
    have hns := Region.noSelect_spec hs
    obtain ⟨he, hw⟩ := hp.exec hk (fun cs b => hns i o cs b ho) ho hi
    have hlt : i < ops.size := (Array.getElem?_eq_some_iff.1 ho).1
    have hil : i < listed.size := by omega
    have hso := hst.mem i o (by rw [← ho]; simp)
    rw [Nat.zero_add] at hso
    unfold wpOp
    simp only [ho]
    rw [hw]
    by_cases hij : i = j
    · rw [if_pos hij] at hso
      subst hij
      have hf0 : listed.getD i false = false := by simp [hil] at hun ⊢; exact hun
      have ht : (listed.setIfInBounds i true).getD i false = true := by simp [hil]
      rw [hf0] at hS
      rw [if_pos hso.1]
      exact .inl (wp_part (S := S true) he (hso.2 w hS (fun a' w' => a' = aF ∧ S true w') (fun w' h' => ⟨rfl, h'⟩)) (fun v w' hv hS' => ih _ _ _ (by have := unl_set hlt hun; omega) (by simpa using hsz) (hp.next ho hv) (by rw [ht]; exact hS')))
    · rw [if_neg hij] at hso
      have hb : (listed.setIfInBounds i true).getD j false = listed.getD j false := getD_set_ne false hij
      have next : ∀ v w', aF.put o.dst v = aF → S (listed.getD j false) w' → wpAny P .any ops Q fuel (listed.setIfInBounds i true) (a.put o.dst v) w' := fun v w' hv hS' =>
        ih _ _ _ (by have := unl_set hlt hun; omega) (by simpa using hsz) (hp.next ho hv) (by rw [hb]; exact hS')
      have hso' := hso (listed.getD j false)
      unfold StepTo at hso'
      split
      · rename_i hwa
        rw [if_pos hwa] at hso'
        exact .inl (wp_part (S := S (listed.getD j false)) he (hso' w hS (fun a' w' => a' = aF ∧ S (listed.getD j false) w') (fun w' h' => ⟨rfl, h'⟩)) next)
      · rename_i hwa
        rw [if_neg hwa] at hso'
        exact next undef w hso' hS
/-- As region_assign, with one operation (number j) that changes the world: S false ahead of it, S true behind it. -/
theorem region_assign1 {id : Nat} {a : Act} {w : World} (S : Bool → World → Prop) (j : Nat) (vs : List (Nat × Value)) (aF : Act) (hm : P.follows .mixedOrders = true) (hj : j < ops.size) (hk : linOk ops = true) (hs : Region.noSelect ops = true)
    (hv : (vs.all fun p => ops.any fun o => o.dst == some p.1) = true) (hF : putAll a vs = aF) (hS : S false w.drew)
    (hst : AllFro P ops S aF j 0 ops.toList) (hend : ∀ w, S true w → Q .normal aF w) : (Code.region id ops true).wp P Q a w := by
  refine wp_region_any hm (any_assign1 hj hk hs hst hend _ _ _ _ ?_ (by simp) ?_ ?_)
  · unfold unl
    exact Nat.le_trans (List.length_filter_le _ _) (by simp)
  · obtain ⟨h1, h2, h3⟩ := putAll_part vs a
    rw [hF] at h1 h2 h3
    refine ⟨h1.symm, h2.symm, fun t ht => (h3 t (fun p hp e => ?_)).symm⟩
    have h4 := List.all_eq_true.1 hv p hp
    rw [Array.any_eq_true] at h4
    obtain ⟨k, hk', h5⟩ := h4
    have h6 := ht k ops[k] (Array.getElem?_eq_getElem hk') (by rw [← e]; simpa using h5)
    simp at h6
    have := h6
    rw [Array.getElem?_replicate] at this
    split at this <;> simp at this
  · have e : (Array.replicate ops.size false).getD j false = false := by
      rw [Array.getD_eq_getD_getElem?, Array.getElem?_replicate]
      split <;> rfl
    rw [e]
    exact hS
end
end Go.Proofs.Ytcfenjpdjogmdaa
namespace Go.Proofs.Ytcfenjpdjogmdaa
open Go.RowKit

section
variable {P : Program} {ops : Array Oper} {Q : Exit → Act → World → Prop} {S : Bool → Bool → World → Prop}

/-- As AllFro, with two operations that change the world, the second of which waits for the first. -/
def AllFroW (P : Program) (ops : Array Oper) (S : Bool → Bool → World → Prop) (aF : Act) (j j2 : Nat) : Nat → List Oper → Prop
  | _, [] => True
  | k, o :: r => (if k = j then ∀ b, StepFro P ops (S false b) (S true b) aF o else if k = j2 then StepFro P ops (S true false) (S true true) aF o else ∀ b b2, StepTo P ops (S b b2) aF o) ∧ AllFroW P ops S aF j j2 (k + 1) r
theorem AllFroW.nil {aF : Act} {j j2 k : Nat} : AllFroW P ops S aF j j2 k [] := trivial
theorem AllFroW.at1 {aF : Act} {j j2 k : Nat} {o : Oper} {r : List Oper} (e : k = j) (h : ∀ b, StepFro P ops (S false b) (S true b) aF o) (g : AllFroW P ops S aF j j2 (k + 1) r) : AllFroW P ops S aF j j2 k (o :: r) := ⟨by rw [if_pos e]; exact h, g⟩
theorem AllFroW.at2 {aF : Act} {j j2 k : Nat} {o : Oper} {r : List Oper} (n : k ≠ j) (e : k = j2) (h : StepFro P ops (S true false) (S true true) aF o) (g : AllFroW P ops S aF j j2 (k + 1) r) : AllFroW P ops S aF j j2 k (o :: r) := ⟨by rw [if_neg n, if_pos e]; exact h, g⟩
theorem AllFroW.off {aF : Act} {j j2 k : Nat} {o : Oper} {r : List Oper} (n : k ≠ j) (e : k ≠ j2) (h : ∀ b b2, StepTo P ops (S b b2) aF o) (g : AllFroW P ops S aF j j2 (k + 1) r) : AllFroW P ops S aF j j2 k (o :: r) := ⟨by rw [if_neg n, if_neg e]; exact h, g⟩
theorem AllFroW.mem {aF : Act} {j j2 : Nat} : ∀ {l : List Oper} {k : Nat} (_ : AllFroW P ops S aF j j2 k l) (i : Nat) (o : Oper), l[i]? = some o → if k + i = j then ∀ b, StepFro P ops (S false b) (S true b) aF o else if k + i = j2 then StepFro P ops (S true false) (S true true) aF o else ∀ b b2, StepTo P ops (S b b2) aF o
  | [], _, _, _, _, h => by simp at h
  | x :: r, k, ⟨h1, _⟩, 0, o, h => by simp at h; subst h; exact h1
  | x :: r, k, ⟨_, h2⟩, i + 1, o, h => by
    have := AllFroW.mem h2 i o (by simpa using h)
    rw [show k + 1 + i = k + (i + 1) by omega] at this
    exact this
/-- Operation j2 waits for operation j. -/
def waits (ops : Array Oper) (j2 j : Nat) : Bool := match ops[j2]? with
  | none => true
  | some o => o.after.any fun e => Region.binds .any e && e.on == j
theorem any_assignW {aF : Act} {j j2 : Nat} (hj : j < ops.size) (hj2 : j2 < ops.size) (hne : j ≠ j2) (hwt : waits ops j2 j = true) (hk : linOk ops = true) (hs : Region.noSelect ops = true) (hst : AllFroW P ops S aF j j2 0 ops.toList) (hend : ∀ w, S true true w → Q .normal aF w) :
    ∀ (fuel : Nat) (listed : Array Bool) (a : Act) (w : World), (unl ops listed).length ≤ fuel → listed.size = ops.size → PartAct ops aF listed a → S (listed.getD j false) (listed.getD j2 false) w → wpAny P .any ops Q fuel listed a w := by
  intro fuel
  have fin : ∀ (listed : Array Bool) (a : Act) (w : World), listed.size = ops.size → PartAct ops aF listed a → S (listed.getD j false) (listed.getD j2 false) w → Region.ready .any ops listed = [] → Q .normal a w := fun listed a w hsz hp hS hr => by
    have hl := ready_nil hk hsz hr
    rw [hp.full hl]
    rw [hl j _ (Array.getElem?_eq_getElem hj), hl j2 _ (Array.getElem?_eq_getElem hj2)] at hS
    exact hend w hS
  induction fuel with
  | zero =>
    intro listed a w hf hsz hp hS
    have h0 : unl ops listed = [] := List.eq_nil_of_length_eq_zero (by omega)
    have hr : Region.ready .any ops listed = [] := by
      cases hr : Region.ready .any ops listed with
      | nil => rfl
      | cons x r =>
        have hx := mem_ready.1 (show x ∈ Region.ready .any ops listed by rw [hr]; simp)
        obtain ⟨hx1, o, ho, _⟩ := hx
        have : x ∈ unl ops listed := List.mem_filter.2 ⟨List.mem_range.2 (Array.getElem?_eq_some_iff.1 ho).1, by rw [hx1]; rfl⟩
        rw [h0] at this
        cases this
    exact ⟨hr, fin listed a w hsz hp hS hr⟩
  | succ fuel ih =>
    intro listed a w hf hsz hp hS
    refine ⟨fin listed a w hsz hp hS, fun i hi => ?_⟩
    obtain ⟨hun, o, ho, hall⟩ := mem_ready.1 hi
    have hns := Region.noSelect_spec hs
    obtain ⟨he, hw⟩ := hp.exec hk (fun cs b => hns i o cs b ho) ho hi
    have hlt : i < ops.size := (Array.getElem?_eq_some_iff.1 ho).1
    have hil : i < listed.size := by omega
    have hso := hst.mem i o (by rw [← ho]; simp)
    rw [Nat.zero_add] at hso
    unfold wpOp
    simp only [ho]
    rw [hw]
    by_cases hij : i = j
    · rw [if_pos hij] at hso
      subst hij
      have hf0 : listed.getD i false = false := by simp [hil] at hun ⊢; exact hun
      have ht : (listed.setIfInBounds i true).getD i false = true := by simp [hil]
      have hb : (listed.setIfInBounds i true).getD j2 false = listed.getD j2 false := getD_set_ne false hne
      rw [hf0] at hS
      have hso' := hso (listed.getD j2 false)
      rw [if_pos hso'.1]
      exact .inl (wp_part (S := S true (listed.getD j2 false)) he (hso'.2 w hS (fun a' w' => a' = aF ∧ S true (listed.getD j2 false) w') (fun w' h' => ⟨rfl, h'⟩)) (fun v w' hv hS' => ih _ _ _ (by have := unl_set hlt hun; omega) (by simpa using hsz) (hp.next ho hv) (by rw [ht, hb]; exact hS')))
    · rw [if_neg hij] at hso
      have hb1 : (listed.setIfInBounds i true).getD j false = listed.getD j false := getD_set_ne false hij
      by_cases hij2 : i = j2
      · rw [if_pos hij2] at hso
        subst hij2
        have hf0 : listed.getD i false = false := by simp [hil] at hun ⊢; exact hun
        have ht : (listed.setIfInBounds i true).getD i false = true := by simp [hil]
        have hjt : listed.getD j false = true := by
          unfold waits at hwt
          rw [ho] at hwt
          simp only [Array.any_eq_true] at hwt
          obtain ⟨x, hx, h2⟩ := hwt
          rw [Bool.and_eq_true, beq_iff_eq] at h2
          rw [← h2.2]
          exact hall _ (Array.getElem_mem hx) h2.1
        rw [hf0, hjt] at hS
        rw [if_pos hso.1]
        exact .inl (wp_part (S := S true true) he (hso.2 w hS (fun a' w' => a' = aF ∧ S true true w') (fun w' h' => ⟨rfl, h'⟩)) (fun v w' hv hS' => ih _ _ _ (by have := unl_set hlt hun; omega) (by simpa using hsz) (hp.next ho hv) (by rw [ht, hb1, hjt]; exact hS')))
      · rw [if_neg hij2] at hso
        have hb2 : (listed.setIfInBounds i true).getD j2 false = listed.getD j2 false := getD_set_ne false hij2
        have next : ∀ v w', aF.put o.dst v = aF → S (listed.getD j false) (listed.getD j2 false) w' → wpAny P .any ops Q fuel (listed.setIfInBounds i true) (a.put o.dst v) w' := fun v w' hv hS' =>
          ih _ _ _ (by have := unl_set hlt hun; omega) (by simpa using hsz) (hp.next ho hv) (by rw [hb1, hb2]; exact hS')
        have hso' := hso (listed.getD j false) (listed.getD j2 false)
        unfold StepTo at hso'
        split
        · rename_i hwa
          rw [if_pos hwa] at hso'
          exact .inl (wp_part (S := S (listed.getD j false) (listed.getD j2 false)) he (hso' w hS (fun a' w' => a' = aF ∧ S (listed.getD j false) (listed.getD j2 false) w') (fun w' h' => ⟨rfl, h'⟩)) next)
        · rename_i hwa
          rw [if_neg hwa] at hso'
          exact next undef w hso' hS
/-- As region_assign, with two operations (numbers j, j2) that change the world, the second of which waits for the first. -/
theorem region_assignW {id : Nat} {a : Act} {w : World} (S : Bool → Bool → World → Prop) (j j2 : Nat) (vs : List (Nat × Value)) (aF : Act) (hm : P.follows .mixedOrders = true) (hj : j < ops.size) (hj2 : j2 < ops.size) (hne : j ≠ j2) (hwt : waits ops j2 j = true) (hk : linOk ops = true) (hs : Region.noSelect ops = true)
    (hv : (vs.all fun p => ops.any fun o => o.dst == some p.1) = true) (hF : putAll a vs = aF) (hS : S false false w.drew)
    (hst : AllFroW P ops S aF j j2 0 ops.toList) (hend : ∀ w, S true true w → Q .normal aF w) : (Code.region id ops true).wp P Q a w := by
  refine wp_region_any hm (any_assignW hj hj2 hne hwt hk hs hst hend _ _ _ _ ?_ (by simp) ?_ ?_)
  · unfold unl
    exact Nat.le_trans (List.length_filter_le _ _) (by simp)
  · obtain ⟨h1, h2, h3⟩ := putAll_part vs a
    rw [hF] at h1 h2 h3
    refine ⟨h1.symm, h2.symm, fun t ht => (h3 t (fun p hp e => ?_)).symm⟩
    have h4 := List.all_eq_true.1 hv p hp
    rw [Array.any_eq_true] at h4
    obtain ⟨k, hk', h5⟩ := h4
    have h6 := ht k ops[k] (Array.getElem?_eq_getElem hk') (by rw [← e]; simpa using h5)
    simp at h6
    have := h6
    rw [Array.getElem?_replicate] at this
    split at this <;> simp at this
  · have e : ∀ j, (Array.replicate ops.size false).getD j false = false := fun j => by
      rw [Array.getD_eq_getD_getElem?, Array.getElem?_replicate]
      split <;> rfl
    rw [e, e]
    exact hS
end
end Go.Proofs.Ytcfenjpdjogmdaa
namespace Go.Proofs.Ytcfenjpdjogmdaa
open Go.RowKit

section
variable {P : Program} {ops : Array Oper} {Q : Exit → Act → World → Prop} {S : Bool → World → Prop}

/-- Each number of the list is one for which a number of acc, or an earlier one of the list, waits. -/
def preOk (ops : Array Oper) : List Nat → List Nat → Bool
  | _, [] => true
  | acc, i :: r => (acc.any fun k => match ops[k]? with | none => false | some o => o.after.any fun e => Region.binds .any e && e.on == i) && preOk ops (i :: acc) r
/-- What has been carried out has not been waiting. -/
def Shut (ops : Array Oper) (listed : Array Bool) : Prop := ∀ (i : Nat) (o : Oper), ops[i]? = some o → listed.getD i false = true → ∀ e ∈ o.after, Region.binds .any e = true → listed.getD e.on false = true
theorem shut_pre {listed : Array Bool} (hc : Shut ops listed) : ∀ (pre acc : List Nat), preOk ops acc pre = true → (∀ k ∈ acc, listed.getD k false = true) → ∀ i ∈ pre, listed.getD i false = true
  | [], _, _, _, i, hi => by cases hi
  | x :: r, acc, hp, ha, i, hi => by
    unfold preOk at hp
    rw [Bool.and_eq_true] at hp
    have hx : listed.getD x false = true := by
      obtain ⟨k, hk, h1⟩ := List.any_eq_true.1 hp.1
      cases ho : ops[k]? with
      | none => rw [ho] at h1; cases h1
      | some o =>
        rw [ho] at h1
        simp only [Array.any_eq_true] at h1
        obtain ⟨q, hq, h2⟩ := h1
        rw [Bool.and_eq_true, beq_iff_eq] at h2
        rw [← h2.2]
        exact hc k o ho (ha k hk) _ (Array.getElem_mem hq) h2.1
    rcases List.mem_cons.1 hi with rfl | hi
    · exact hx
    · exact shut_pre hc r (x :: acc) hp.2 (fun k hk => (List.mem_cons.1 hk).elim (fun e => by rw [e]; exact hx) (ha k)) i hi
/-- As AllFro; those of pre are looked at ahead of number j alone. -/
def AllPre (P : Program) (ops : Array Oper) (S : Bool → World → Prop) (aF : Act) (j : Nat) (pre : List Nat) : Nat → List Oper → Prop
  | _, [] => True
  | k, o :: r => (if k = j then StepFro P ops (S false) (S true) aF o else if pre.contains k = true then StepTo P ops (S false) aF o else ∀ b, StepTo P ops (S b) aF o) ∧ AllPre P ops S aF j pre (k + 1) r
theorem AllPre.nil {aF : Act} {j k : Nat} {pre : List Nat} : AllPre P ops S aF j pre k [] := trivial
theorem AllPre.at_ {aF : Act} {j k : Nat} {pre : List Nat} {o : Oper} {r : List Oper} (e : k = j) (h : StepFro P ops (S false) (S true) aF o) (g : AllPre P ops S aF j pre (k + 1) r) : AllPre P ops S aF j pre k (o :: r) := ⟨by rw [if_pos e]; exact h, g⟩
theorem AllPre.pre {aF : Act} {j k : Nat} {pre : List Nat} {o : Oper} {r : List Oper} (e : k ≠ j) (c : pre.contains k = true) (h : StepTo P ops (S false) aF o) (g : AllPre P ops S aF j pre (k + 1) r) : AllPre P ops S aF j pre k (o :: r) := ⟨by rw [if_neg e, if_pos c]; exact h, g⟩
theorem AllPre.off {aF : Act} {j k : Nat} {pre : List Nat} {o : Oper} {r : List Oper} (e : k ≠ j) (c : pre.contains k = false) (h : ∀ b, StepTo P ops (S b) aF o) (g : AllPre P ops S aF j pre (k + 1) r) : AllPre P ops S aF j pre k (o :: r) := ⟨by rw [if_neg e, if_neg (by rw [c]; simp)]; exact h, g⟩
theorem AllPre.mem {aF : Act} {j : Nat} {pre : List Nat} : ∀ {l : List Oper} {k : Nat} (_ : AllPre P ops S aF j pre k l) (i : Nat) (o : Oper), l[i]? = some o → if k + i = j then StepFro P ops (S false) (S true) aF o else if pre.contains (k + i) = true then StepTo P ops (S false) aF o else ∀ b, StepTo P ops (S b) aF o
  | [], _, _, _, _, h => by simp at h
  | x :: r, k, ⟨h1, _⟩, 0, o, h => by simp at h; subst h; exact h1
  | x :: r, k, ⟨_, h2⟩, i + 1, o, h => by
    have := AllPre.mem h2 i o (by simpa using h)
    rw [show k + 1 + i = k + (i + 1) by omega] at this
    exact this
theorem Shut.next {listed : Array Bool} {i : Nat} {o : Oper} (hc : Shut ops listed) (ho : ops[i]? = some o) (hil : i < listed.size) (hall : ∀ e ∈ o.after, Region.binds .any e = true → listed.getD e.on false = true) : Shut ops (listed.setIfInBounds i true) := by
  have up : ∀ k, listed.getD k false = true → (listed.setIfInBounds i true).getD k false = true := fun k hk => by
    by_cases h : i = k
    · subst h; simp [hil]
    · rw [getD_set_ne false h]; exact hk
  intro k o' ho' hl e he hb
  by_cases h : i = k
  · subst h; rw [ho] at ho'; cases ho'; exact up _ (hall e he hb)
  · rw [getD_set_ne false h] at hl; exact up _ (hc k o' ho' hl e he hb)
theorem any_assignP {aF : Act} {j : Nat} {pre : List Nat} (hj : j < ops.size) (hpre : preOk ops [j] pre = true) (hk : linOk ops = true) (hs : Region.noSelect ops = true) (hst : AllPre P ops S aF j pre 0 ops.toList) (hend : ∀ w, S true w → Q .normal aF w) :
    ∀ (fuel : Nat) (listed : Array Bool) (a : Act) (w : World), (unl ops listed).length ≤ fuel → listed.size = ops.size → Shut ops listed → PartAct ops aF listed a → S (listed.getD j false) w → wpAny P .any ops Q fuel listed a w := by
  intro fuel
  have fin : ∀ (listed : Array Bool) (a : Act) (w : World), listed.size = ops.size → PartAct ops aF listed a → S (listed.getD j false) w → Region.ready .any ops listed = [] → Q .normal a w := fun listed a w hsz hp hS hr => by
    have hl := ready_nil hk hsz hr
    rw [hp.full hl]
    rw [hl j _ (Array.getElem?_eq_getElem hj)] at hS
    exact hend w hS
  induction fuel with
  | zero =>
    intro listed a w hf hsz _ hp hS
    have h0 : unl ops listed = [] := List.eq_nil_of_length_eq_zero (by omega)
    have hr : Region.ready .any ops listed = [] := by
      cases hr : Region.ready .any ops listed with
      | nil => rfl
      | cons x r =>
        have hx := mem_ready.1 (show x ∈ Region.ready .any ops listed by rw [hr]; simp)
        obtain ⟨hx1, o, ho, _⟩ := hx
        have : x ∈ unl ops listed := List.mem_filter.2 ⟨List.mem_range.2 (Array.getElem?_eq_some_iff.1 ho).1, by rw [hx1]; rfl⟩
        rw [h0] at this
        cases this
    exact ⟨hr, fin listed a w hsz hp hS hr⟩
  | succ fuel ih =>
    intro listed a w hf hsz hc hp hS
    refine ⟨fin listed a w hsz hp hS, fun i hi => ?_⟩
    obtain ⟨hun, o, ho, hall⟩ := mem_ready.1 hi
    have hns := Region.noSelect_spec hs
    obtain ⟨he, hw⟩ := hp.exec hk (fun cs b => hns i o cs b ho) ho hi
    have hlt : i < ops.size := (Array.getElem?_eq_some_iff.1 ho).1
    have hil : i < listed.size := by omega
    have hf0 : listed.getD i false = false := by simp [hil] at hun ⊢; exact hun
    have hc' := hc.next ho hil hall
    have hso := hst.mem i o (by rw [← ho]; simp)
    rw [Nat.zero_add] at hso
    unfold wpOp
    simp only [ho]
    rw [hw]
    by_cases hij : i = j
    · rw [if_pos hij] at hso
      subst hij
      have ht : (listed.setIfInBounds i true).getD i false = true := by simp [hil]
      rw [hf0] at hS
      rw [if_pos hso.1]
      exact .inl (wp_part (S := S true) he (hso.2 w hS (fun a' w' => a' = aF ∧ S true w') (fun w' h' => ⟨rfl, h'⟩)) (fun v w' hv hS' => ih _ _ _ (by have := unl_set hlt hun; omega) (by simpa using hsz) hc' (hp.next ho hv) (by rw [ht]; exact hS')))
    · rw [if_neg hij] at hso
      have hb : (listed.setIfInBounds i true).getD j false = listed.getD j false := getD_set_ne false hij
      have next : ∀ v w', aF.put o.dst v = aF → S (listed.getD j false) w' → wpAny P .any ops Q fuel (listed.setIfInBounds i true) (a.put o.dst v) w' := fun v w' hv hS' =>
        ih _ _ _ (by have := unl_set hlt hun; omega) (by simpa using hsz) hc' (hp.next ho hv) (by rw [hb]; exact hS')
      have hso' : StepTo P ops (S (listed.getD j false)) aF o := by
        by_cases hin : pre.contains i = true
        · rw [if_pos hin] at hso
          have hjf : listed.getD j false = false := by
            cases hjl : listed.getD j false with
            | false => rfl
            | true =>
              have := shut_pre hc pre [j] hpre (fun k hk => by rw [List.mem_singleton.1 hk]; exact hjl) i (by simpa using hin)
              rw [hf0] at this
              cases this
          rw [hjf]
          exact hso
        · rw [if_neg hin] at hso
          exact hso _
      unfold StepTo at hso'
      split
      · rename_i hwa
        rw [if_pos hwa] at hso'
        exact .inl (wp_part (S := S (listed.getD j false)) he (hso' w hS (fun a' w' => a' = aF ∧ S (listed.getD j false) w') (fun w' h' => ⟨rfl, h'⟩)) next)
      · rename_i hwa
        rw [if_neg hwa] at hso'
        exact next undef w hso' hS
/-- As region_assign1; those of pre come ahead of number j, for it waits for them. -/
theorem region_assignP {id : Nat} {a : Act} {w : World} (S : Bool → World → Prop) (j : Nat) (pre : List Nat) (vs : List (Nat × Value)) (aF : Act) (hm : P.follows .mixedOrders = true) (hj : j < ops.size) (hpre : preOk ops [j] pre = true) (hk : linOk ops = true) (hs : Region.noSelect ops = true)
    (hv : (vs.all fun p => ops.any fun o => o.dst == some p.1) = true) (hF : putAll a vs = aF) (hS : S false w.drew)
    (hst : AllPre P ops S aF j pre 0 ops.toList) (hend : ∀ w, S true w → Q .normal aF w) : (Code.region id ops true).wp P Q a w := by
  refine wp_region_any hm (any_assignP hj hpre hk hs hst hend _ _ _ _ ?_ (by simp) ?_ ?_ ?_)
  · unfold unl
    exact Nat.le_trans (List.length_filter_le _ _) (by simp)
  · intro i o _ hl
    have e : (Array.replicate ops.size false).getD i false = false := by
      rw [Array.getD_eq_getD_getElem?, Array.getElem?_replicate]
      split <;> rfl
    rw [e] at hl
    cases hl
  · obtain ⟨h1, h2, h3⟩ := putAll_part vs a
    rw [hF] at h1 h2 h3
    refine ⟨h1.symm, h2.symm, fun t ht => (h3 t (fun p hp e => ?_)).symm⟩
    have h4 := List.all_eq_true.1 hv p hp
    rw [Array.any_eq_true] at h4
    obtain ⟨k, hk', h5⟩ := h4
    have h6 := ht k ops[k] (Array.getElem?_eq_getElem hk') (by rw [← e]; simpa using h5)
    simp at h6
    have := h6
    rw [Array.getElem?_replicate] at this
    split at this <;> simp at this
  · have e : (Array.replicate ops.size false).getD j false = false := by
      rw [Array.getD_eq_getD_getElem?, Array.getElem?_replicate]
      split <;> rfl
    rw [e]
    exact hS
end
end Go.Proofs.Ytcfenjpdjogmdaa
