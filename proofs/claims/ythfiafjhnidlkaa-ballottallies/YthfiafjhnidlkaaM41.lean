import Derived.Test.YthfiafjhnidlkaaBAs
import Derived.Test.YthfiafjhnidlkaaBRv
import Derived.Maps.AppendAt
import Derived.BigQuiet
namespace Go.Proofs.Ythfiafjhnidlkaa
open Go.RowKit

section
variable {P : Program} {ops : Array Oper} {Q : Exit → Act → World → Prop} {S : Bool → World → Prop}

/-- As StepTo, from S to S'. -/
def StepFro (P : Program) (ops : Array Oper) (S S' : World → Prop) (aF : Act) (o : Oper) : Prop :=
  Region.wanted o (yielded ops aF.tmps) = true ∧ ∀ w, S w → ∀ K : Act → World → Prop, Hid (∀ w', S' w' → K aF w') → Oper.wp P o aF w K (fun _ _ _ => False)
/-- The operations from number k on: number j leads from S false to S true, each other keeps S. -/
def AllFro (P : Program) (ops : Array Oper) (S : Bool → World → Prop) (aF : Act) (j : Nat) : Nat → List Oper → Prop
  | _, [] => True
  | k, o :: r => (if k = j then StepFro P ops (S false) (S true) aF o else ∀ b, StepTo P ops (S b) aF o) ∧ AllFro P ops S aF j (k + 1) r
theorem AllFro.nil {aF : Act} {j k : Nat} : AllFro P ops S aF j k [] := trivial
theorem AllFro.at_ {aF : Act} {j k : Nat} {o : Oper} {r : List Oper} (e : k = j) (h : StepFro P ops (S false) (S true) aF o) (g : AllFro P ops S aF j (k + 1) r) : AllFro P ops S aF j k (o :: r) := ⟨by rw [if_pos e]; exact h, g⟩
theorem AllFro.off {aF : Act} {j k : Nat} {o : Oper} {r : List Oper} (e : k ≠ j) (h : ∀ b, StepTo P ops (S b) aF o) (g : AllFro P ops S aF j (k + 1) r) : AllFro P ops S aF j k (o :: r) := ⟨by rw [if_neg e]; exact h, g⟩
theorem AllFro.mem {aF : Act} {j : Nat} : ∀ {l : List Oper} {k : Nat} (_ : AllFro P ops S aF j k l) (i : Nat) (o : Oper), l[i]? = some o → if k + i = j then StepFro P ops (S false) (S true) aF o else ∀ b, StepTo P ops (S b) aF o
  | [], _, _, _, _, h => by simp at h
  | x :: r, k, ⟨h1, _⟩, 0, o, h => by simp at h; subst h; exact h1
  | x :: r, k, ⟨_, h2⟩, i + 1, o, h => by
    have := AllFro.mem h2 i o (by simpa using h)
    rw [show k + 1 + i = k + (i + 1) by omega] at this
    exact this
theorem any_assign1 {aF : Act} {j : Nat} (hj : j < ops.size) (hk : linOk ops = true) (hs : Region.noSelect ops = true) (hst : AllFro P ops S aF j 0 ops.toList) (hend : ∀ w, S true w → Q .normal aF w) :
    ∀ (fuel : Nat) (listed : Array Bool) (a : Act) (w : World), (unl ops listed).length ≤ fuel → listed.size = ops.size → PartAct ops aF listed a → S (listed.getD j false) w → wpAny P .any ops Q fuel listed a w := by
  intro fuel
  have fin : ∀ (listed : Array Bool) (a : Act) (w : World), listed.size = ops.size → PartAct ops aF listed a → S (listed.getD j false) w → Region.ready .any ops listed = [] → Q .normal a w := fun listed a w hsz hp hS hr => by
    have hl := ready_nil hk hsz hr
    rw [hp.full hl]
    rw [hl j _ (Array.getElem?_eq_getElem hj)] at hS
    exact hend w hS
  induction fuel with
  | zero =>
    intro listed a w hf hsz hp hS
    have h0 : unl ops listed = [] := List.eq_nil_of_length_eq_zero (by omega)
    have hr : Region.ready .any ops listed = [] := by
      cases hr : Region.ready .any ops listed with
      | nil => rfl
      | cons x r =>
        have hx := mem_ready.1 (show x ∈ Region.ready .any ops listed by rw [hr]; simp)
        obtain ⟨hx1, o, ho, _⟩ := hx
        have : x ∈ unl ops listed := List.mem_filter.2 ⟨List.mem_range.2 (Array.getElem?_eq_some_iff.1 ho).1, by rw [hx1]; rfl⟩
        rw [h0] at this
        cases this
    exact ⟨hr, fin listed a w hsz hp hS hr⟩
  | succ fuel ih =>
    intro listed a w hf hsz hp hS
    refine ⟨fin listed a w hsz hp hS, fun i hi => ?_⟩
    obtain ⟨hun, o, ho, hall⟩ := mem_ready.1 hi
    have hns := Region.noSelect_spec hs
    obtain ⟨he, hw⟩ := hp.exec hk (fun cs b => hns i o cs b ho) ho hi
    have hlt : i < ops.size := (Array.getElem?_eq_some_iff.1 ho).1
    have hil : i < listed.size := by omega
    have hso := hst.mem i o (by rw [← ho]; simp)
    rw [Nat.zero_add] at hso
    unfold wpOp
    simp only [ho]
    rw [hw]
    by_cases hij : i = j
    · rw [if_pos hij] at hso
      subst hij
      have hf0 : listed.getD i false = false := by simp [hil] at hun ⊢; exact hun
      have ht : (listed.setIfInBounds i true).getD i false = true := by simp [hil]
      rw [hf0] at hS
      rw [if_pos hso.1]
      exact .inl (wp_part (S := S true) he (hso.2 w hS (fun a' w' => a' = aF ∧ S true w') (fun w' h' => ⟨rfl, h'⟩)) (fun v w' hv hS' => ih _ _ _ (by have := unl_set hlt hun; omega) (by simpa using hsz) (hp.next ho hv) (by rw [ht]; exact hS')))
    · rw [if_neg hij] at hso
      have hb : (listed.setIfInBounds i true).getD j false = listed.getD j false := getD_set_ne false hij
      have next : ∀ v w', aF.put o.dst v = aF → S (listed.getD j false) w' → wpAny P .any ops Q fuel (listed.setIfInBounds i true) (a.put o.dst v) w' := fun v w' hv hS' =>
        ih _ _ _ (by have := unl_set hlt hun; omega) (by simpa using hsz) (hp.next ho hv) (by rw [hb]; exact hS')
      have hso' := hso (listed.getD j false)
      unfold StepTo at hso'
      split
      · rename_i hwa
        rw [if_pos hwa] at hso'
        exact .inl (wp_part (S := S (listed.getD j false)) he (hso' w hS (fun a' w' => a' = aF ∧ S (listed.getD j false) w') (fun w' h' => ⟨rfl, h'⟩)) next)
      · rename_i hwa
        rw [if_neg hwa] at hso'
        exact next undef w hso' hS
/-- As region_assign, with one operation (number j) that changes the world: S false ahead of it, S true behind it. -/
theorem region_assign1 {id : Nat} {a : Act} {w : World} (S : Bool → World → Prop) (j : Nat) (vs : List (Nat × Value)) (aF : Act) (hm : P.follows .mixedOrders = true) (hj : j < ops.size) (hk : linOk ops = true) (hs : Region.noSelect ops = true)
    (hv : (vs.all fun p => ops.any fun o => o.dst == some p.1) = true) (hF : putAll a vs = aF) (hS : S false w.drew)
    (hst : AllFro P ops S aF j 0 ops.toList) (hend : ∀ w, S true w → Q .normal aF w) : (Code.region id ops true).wp P Q a w := by
  refine wp_region_any hm (any_assign1 hj hk hs hst hend _ _ _ _ ?_ (by simp) ?_ ?_)
  · unfold unl
    exact Nat.le_trans (List.length_filter_le _ _) (by simp)
  · obtain ⟨h1, h2, h3⟩ := putAll_part vs a
    rw [hF] at h1 h2 h3
    refine ⟨h1.symm, h2.symm, fun t ht => (h3 t (fun p hp e => ?_)).symm⟩
    have h4 := List.all_eq_true.1 hv p hp
    rw [Array.any_eq_true] at h4
    obtain ⟨k, hk', h5⟩ := h4
    have h6 := ht k ops[k] (Array.getElem?_eq_getElem hk') (by rw [← e]; simpa using h5)
    simp at h6
    have := h6
    rw [Array.getElem?_replicate] at this
    split at this <;> simp at this
  · have e : (Array.replicate ops.size false).getD j false = false := by
      rw [Array.getD_eq_getD_getElem?, Array.getElem?_replicate]
      split <;> rfl
    rw [e]
    exact hS
end
end Go.Proofs.Ythfiafjhnidlkaa
namespace Go.Proofs.Ythfiafjhnidlkaa
open Go.RowKit

section
variable {P : Program} {ops : Array Oper} {Q : Exit → Act → World → Prop} {S : Bool → World → Prop}

/-- Each number of the list is one for which a number of acc, or an earlier one of the list, waits. -/
def preOk (ops : Array Oper) : List Nat → List Nat → Bool
  | _, [] => true
  | acc, i :: r => (acc.any fun k => match ops[k]? with | none => false | some o => o.after.any fun e => Region.binds .any e && e.on == i) && preOk ops (i :: acc) r
/-- What has been carried out has not been waiting. -/
def Shut (ops : Array Oper) (listed : Array Bool) : Prop := ∀ (i : Nat) (o : Oper), ops[i]? = some o → listed.getD i false = true → ∀ e ∈ o.after, Region.binds .any e = true → listed.getD e.on false = true
theorem shut_pre {listed : Array Bool} (hc : Shut ops listed) : ∀ (pre acc : List Nat), preOk ops acc pre = true → (∀ k ∈ acc, listed.getD k false = true) → ∀ i ∈ pre, listed.getD i false = true
  | [], _, _, _, i, hi => by cases hi
  | x :: r, acc, hp, ha, i, hi => by
    unfold preOk at hp
    rw [Bool.and_eq_true] at hp
    have hx : listed.getD x false = true := by
      obtain ⟨k, hk, h1⟩ := List.any_eq_true.1 hp.1
      cases ho : ops[k]? with
      | none => rw [ho] at h1; cases h1
      | some o =>
        rw [ho] at h1
        simp only [Array.any_eq_true] at h1
        obtain ⟨q, hq, h2⟩ := h1
        rw [Bool.and_eq_true, beq_iff_eq] at h2
        rw [← h2.2]
        exact hc k o ho (ha k hk) _ (Array.getElem_mem hq) h2.1
    rcases List.mem_cons.1 hi with rfl | hi
    · exact hx
    · exact shut_pre hc r (x :: acc) hp.2 (fun k hk => (List.mem_cons.1 hk).elim (fun e => by rw [e]; exact hx) (ha k)) i hi
/-- As AllFro; those of pre are looked at ahead of number j alone. -/
def AllPre (P : Program) (ops : Array Oper) (S : Bool → World → Prop) (aF : Act) (j : Nat) (pre : List Nat) : Nat → List Oper → Prop
  | _, [] => True
  | k, o :: r => (if k = j then StepFro P ops (S false) (S true) aF o else if pre.contains k = true then StepTo P ops (S false) aF o else ∀ b, StepTo P ops (S b) aF o) ∧ AllPre P ops S aF j pre (k + 1) r
theorem AllPre.nil {aF : Act} {j k : Nat} {pre : List Nat} : AllPre P ops S aF j pre k [] := trivial
theorem AllPre.at_ {aF : Act} {j k : Nat} {pre : List Nat} {o : Oper} {r : List Oper} (e : k = j) (h : StepFro P ops (S false) (S true) aF o) (g : AllPre P ops S aF j pre (k + 1) r) : AllPre P ops S aF j pre k (o :: r) := ⟨by rw [if_pos e]; exact h, g⟩
theorem AllPre.pre {aF : Act} {j k : Nat} {pre : List Nat} {o : Oper} {r : List Oper} (e : k ≠ j) (c : pre.contains k = true) (h : StepTo P ops (S false) aF o) (g : AllPre P ops S aF j pre (k + 1) r) : AllPre P ops S aF j pre k (o :: r) := ⟨by rw [if_neg e, if_pos c]; exact h, g⟩
theorem AllPre.off {aF : Act} {j k : Nat} {pre : List Nat} {o : Oper} {r : List Oper} (e : k ≠ j) (c : pre.contains k = false) (h : ∀ b, StepTo P ops (S b) aF o) (g : AllPre P ops S aF j pre (k + 1) r) : AllPre P ops S aF j pre k (o :: r) := ⟨by rw [if_neg e, if_neg (by rw [c]; simp)]; exact h, g⟩
theorem AllPre.mem {aF : Act} {j : Nat} {pre : List Nat} : ∀ {l : List Oper} {k : Nat} (_ : AllPre P ops S aF j pre k l) (i : Nat) (o : Oper), l[i]? = some o → if k + i = j then StepFro P ops (S false) (S true) aF o else if pre.contains (k + i) = true then StepTo P ops (S false) aF o else ∀ b, StepTo P ops (S b) aF o
  | [], _, _, _, _, h => by simp at h
  | x :: r, k, ⟨h1, _⟩, 0, o, h => by simp at h; subst h; exact h1
  | x :: r, k, ⟨_, h2⟩, i + 1, o, h => by
    have := AllPre.mem h2 i o (by simpa using h)
    rw [show k + 1 + i = k + (i + 1) by omega] at this
    exact this
theorem Shut.next {listed : Array Bool} {i : Nat} {o : Oper} (hc : Shut ops listed) (ho : ops[i]? = some o) (hil : i < listed.size) (hall : ∀ e ∈ o.after, Region.binds .any e = true → listed.getD e.on false = true) : Shut ops (listed.setIfInBounds i true) := by
  have up : ∀ k, listed.getD k false = true → (listed.setIfInBounds i true).getD k false = true := fun k hk => by
    by_cases h : i = k
    · subst h; simp [hil]
    · rw [getD_set_ne false h]; exact hk
  intro k o' ho' hl e he hb
  by_cases h : i = k
  · subst h; rw [ho] at ho'; cases ho'; exact up _ (hall e he hb)
  · rw [getD_set_ne false h] at hl; exact up _ (hc k o' ho' hl e he hb)
theorem any_assignP {aF : Act} {j : Nat} {pre : List Nat} (hj : j < ops.size) (hpre : preOk ops [j] pre = true) (hk : linOk ops = true) (hs : Region.noSelect ops = true) (hst : AllPre P ops S aF j pre 0 ops.toList) (hend : ∀ w, S true w → Q .normal aF w) :
    ∀ (fuel : Nat) (listed : Array Bool) (a : Act) (w : World), (unl ops listed).length ≤ fuel → listed.size = ops.size → Shut ops listed → PartAct ops aF listed a → S (listed.getD j false) w → wpAny P .any ops Q fuel listed a w := by
  intro fuel
  have fin : ∀ (listed : Array Bool) (a : Act) (w : World), listed.size = ops.size → PartAct ops aF listed a → S (listed.getD j false) w → Region.ready .any ops listed = [] → Q .normal a w := fun listed a w hsz hp hS hr => by
    have hl := ready_nil hk hsz hr
    rw [hp.full hl]
    rw [hl j _ (Array.getElem?_eq_getElem hj)] at hS
    exact hend w hS
  induction fuel with
  | zero =>
    intro listed a w hf hsz _ hp hS
    have h0 : unl ops listed = [] := List.eq_nil_of_length_eq_zero (by omega)
    have hr : Region.ready .any ops listed = [] := by
      cases hr : Region.ready .any ops listed with
      | nil => rfl
      | cons x r =>
        have hx := mem_ready.1 (show x ∈ Region.ready .any ops listed by rw [hr]; simp)
        obtain ⟨hx1, o, ho, _⟩ := hx
        have : x ∈ unl ops listed := List.mem_filter.2 ⟨List.mem_range.2 (Array.getElem?_eq_some_iff.1 ho).1, by rw [hx1]; rfl⟩
        rw [h0] at this
        cases this
    exact ⟨hr, fin listed a w hsz hp hS hr⟩
  | succ fuel ih =>
    intro listed a w hf hsz hc hp hS
    refine ⟨fin listed a w hsz hp hS, fun i hi => ?_⟩
    obtain ⟨hun, o, ho, hall⟩ := mem_ready.1 hi
    have hns := Region.noSelect_spec hs
    obtain ⟨he, hw⟩ := hp.exec hk (fun cs b => hns i o cs b ho) ho hi
    have hlt : i < ops.size := (Array.getElem?_eq_some_iff.1 ho).1
    have hil : i < listed.size := by omega
    have hf0 : listed.getD i false = false := by simp [hil] at hun ⊢; exact hun
    have hc' := hc.next ho hil hall
    have hso := hst.mem i o (by rw [← ho]; simp)
    rw [Nat.zero_add] at hso
    unfold wpOp
    simp only [ho]
    rw [hw]
    by_cases hij : i = j
    · rw [if_pos hij] at hso
      subst hij
      have ht : (listed.setIfInBounds i true).getD i false = true := by simp [hil]
      rw [hf0] at hS
      rw [if_pos hso.1]
      exact .inl (wp_part (S := S true) he (hso.2 w hS (fun a' w' => a' = aF ∧ S true w') (fun w' h' => ⟨rfl, h'⟩)) (fun v w' hv hS' => ih _ _ _ (by have := unl_set hlt hun; omega) (by simpa using hsz) hc' (hp.next ho hv) (by rw [ht]; exact hS')))
    · rw [if_neg hij] at hso
      have hb : (listed.setIfInBounds i true).getD j false = listed.getD j false := getD_set_ne false hij
      have next : ∀ v w', aF.put o.dst v = aF → S (listed.getD j false) w' → wpAny P .any ops Q fuel (listed.setIfInBounds i true) (a.put o.dst v) w' := fun v w' hv hS' =>
        ih _ _ _ (by have := unl_set hlt hun; omega) (by simpa using hsz) hc' (hp.next ho hv) (by rw [hb]; exact hS')
      have hso' : StepTo P ops (S (listed.getD j false)) aF o := by
        by_cases hin : pre.contains i = true
        · rw [if_pos hin] at hso
          have hjf : listed.getD j false = false := by
            cases hjl : listed.getD j false with
            | false => rfl
            | true =>
              have := shut_pre hc pre [j] hpre (fun k hk => by rw [List.mem_singleton.1 hk]; exact hjl) i (by simpa using hin)
              rw [hf0] at this
              cases this
          rw [hjf]
          exact hso
        · rw [if_neg hin] at hso
          exact hso _
      unfold StepTo at hso'
      split
      · rename_i hwa
        rw [if_pos hwa] at hso'
        exact .inl (wp_part (S := S (listed.getD j false)) he (hso' w hS (fun a' w' => a' = aF ∧ S (listed.getD j false) w') (fun w' h' => ⟨rfl, h'⟩)) next)
      · rename_i hwa
        rw [if_neg hwa] at hso'
        exact next undef w hso' hS
/-- As region_assign1; those of pre come ahead of number j, for it waits for them. -/
theorem region_assignP {id : Nat} {a : Act} {w : World} (S : Bool → World → Prop) (j : Nat) (pre : List Nat) (vs : List (Nat × Value)) (aF : Act) (hm : P.follows .mixedOrders = true) (hj : j < ops.size) (hpre : preOk ops [j] pre = true) (hk : linOk ops = true) (hs : Region.noSelect ops = true)
    (hv : (vs.all fun p => ops.any fun o => o.dst == some p.1) = true) (hF : putAll a vs = aF) (hS : S false w.drew)
    (hst : AllPre P ops S aF j pre 0 ops.toList) (hend : ∀ w, S true w → Q .normal aF w) : (Code.region id ops true).wp P Q a w := by
  refine wp_region_any hm (any_assignP hj hpre hk hs hst hend _ _ _ _ ?_ (by simp) ?_ ?_ ?_)
  · unfold unl
    exact Nat.le_trans (List.length_filter_le _ _) (by simp)
  · intro i o _ hl
    have e : (Array.replicate ops.size false).getD i false = false := by
      rw [Array.getD_eq_getD_getElem?, Array.getElem?_replicate]
      split <;> rfl
    rw [e] at hl
    cases hl
  · obtain ⟨h1, h2, h3⟩ := putAll_part vs a
    rw [hF] at h1 h2 h3
    refine ⟨h1.symm, h2.symm, fun t ht => (h3 t (fun p hp e => ?_)).symm⟩
    have h4 := List.all_eq_true.1 hv p hp
    rw [Array.any_eq_true] at h4
    obtain ⟨k, hk', h5⟩ := h4
    have h6 := ht k ops[k] (Array.getElem?_eq_getElem hk') (by rw [← e]; simpa using h5)
    simp at h6
    have := h6
    rw [Array.getElem?_replicate] at this
    split at this <;> simp at this
  · have e : (Array.replicate ops.size false).getD j false = false := by
      rw [Array.getD_eq_getD_getElem?, Array.getElem?_replicate]
      split <;> rfl
    rw [e]
    exact hS
end
end Go.Proofs.Ythfiafjhnidlkaa
namespace Go.Proofs.Ythfiafjhnidlkaa
open Go.RowKit

theorem step_append_atK {P : Program} {ops : Array Oper} {o : Oper} {a : Act} {w : World} {K : Act → World → Prop} {Q : Exit → Act → World → Prop} {E : Prop}
    (hgd : o.guard = none) (s x : Operand) (t : TypeId) (ho : o.op = .call { callee := .builtin .append, args := #[s, x], argTypes := #[t, t] })
    (base : Nat) (e : TypeId) (i : TypeInfo) (z : Value) (size bytes : Nat) (ht : P.underlying t = some (.slice e)) (hi : P.info? e = some i) (hz : i.zero = some z)
    (hsize : i.size = size) (hby : i.bytes = bytes) (hzs : z.cells.size = size) (hsz : 0 < size)
    (v : Value) (n : Nat) (xs : List Value) (hs : a.eval s = v) (hown : w.ownsRow base e size v n xs)
    (ad : Addr) (m c : Nat) (news : List Value) (hx : a.eval x = .slice (some ad) m c) (hl : news.length = m * size) (hnews : ∀ j u, news[j]? = some u → w.cell? (ad.add j) = some u) (h1 : ∀ u ∈ news, u.oneCell' = true)
    (h63 : n + m ≤ maxLen) (hbytes : (n + m) * bytes ≤ 140737488355328) (hbase : base ≤ w.heap.size)
    (h : ∀ v' w', w'.ownsRow base e size v' (n + m) (xs ++ news) → w.grownBy w' v.ownBlock → (v'.ownBlock = v.ownBlock ∨ v'.ownBlock = some w.heap.size) → K (a.put o.dst v') w') :
    if Region.wanted o (yielded ops a.tmps) = true then Oper.wp P o a w K Q else E := by
  have hw : Region.wanted o (yielded ops a.tmps) = true := by simp [Region.wanted, hgd]
  rw [if_pos hw]
  obtain ⟨v', w', hr, h2, h3, _, h5⟩ := run_append_own_at (P := P) w base t o.type e i z size bytes ht hi hz hsize hby hzs hsz v n xs hown ad m c news hl hnews h1 h63 hbytes hbase
  unfold Oper.wp execOp
  simp only [ho, resolve, invoke, builtin, Sem.run_bind, Sem.run_pure, Result.andThen_ok, List.map_toArray, List.map_cons, List.map_nil, hs, hx, hr]
  exact h v' w' h2 h3 h5
theorem krcells_set : ∀ (L : List Kr) (i : Nat) (x : Kr) (f : Nat), L[i]? = some x → krcells (L.set i ⟨x.n, x.num, x.node, f⟩) = (krcells L).set (i * 4 + 3) (.int .u32 (f : Int))
  | [], i, x, f, h => by simp at h
  | y :: t, 0, x, f, h => by
    simp at h
    subst h
    rfl
  | y :: t, i + 1, x, f, h => by
    have ih := krcells_set t i x f (by simpa using h)
    show y.cells ++ krcells (t.set i ⟨x.n, x.num, x.node, f⟩) = (y.cells ++ krcells t).set ((i + 1) * 4 + 3) (.int .u32 (f : Int))
    rw [ih, show (i + 1) * 4 + 3 = i * 4 + 3 + 1 + 1 + 1 + 1 by omega]
    rfl
theorem row_group {B k : Nat} {w : World} {v : Value} {xs : List Value} {j : Nat} {X : Array Value} (h : w.ownsRow B 124 4 v k xs) (hX : w.heap[j]? = some (.cells X 131 (0, 0))) : v.ownBlock ≠ some j := fun e => by
  rcases h.2 with ⟨rfl, _⟩ | ⟨g', cap, cur, rfl, _, hb, _⟩
  · cases e
  · cases e
    rw [hb] at hX
    cases hX
theorem RT.free {W : World} {pr h B : Nat} {c : Cf} {L : List Kr} {g n cap : Nat} (r : RT W pr h B c (.slice (some ⟨g, 0, none⟩) n cap) L) (j : Nat) : W.frozen? ⟨g, j, none⟩ = false := by
  rcases r.row.2 with ⟨e, _⟩ | ⟨g', cap', cur, e, _, hg, _⟩
  · cases e
  · cases e
    exact block_free hg j
/-- A key's set is another. -/
theorem RT.set {W : World} {pr h B : Nat} {c : Cf} {L : List Kr} {g n cap : Nat} (r : RT W pr h B c (.slice (some ⟨g, 0, none⟩) n cap) L) {i : Nat} {x : Kr} (hi : L[i]? = some x) (f : Nat) : RT (W.setCell ⟨g, i * 4 + 3, none⟩ (.int .u32 (f : Int))) pr h B c (.slice (some ⟨g, 0, none⟩) n cap) (L.set i ⟨x.n, x.num, x.node, f⟩) := by
  have gs := grown_set W g (i * 4 + 3) (.int .u32 (f : Int))
  have h1 : pr ≠ g := fun e => row_tally r.row r.blk (by rw [e]; rfl)
  have h2 : h ≠ g := fun e => row_group r.row r.gb (by rw [e]; rfl)
  have hil := (List.getElem?_eq_some_iff.1 hi).1
  refine ⟨(gs.block _ (block_lt r.blk) (fun e => h1 (Option.some.inj e))).trans r.blk, ⟨?_, ?_⟩, (gs.block _ (block_lt r.gb) (fun e => h2 (Option.some.inj e))).trans r.gb, r.ok⟩
  · rw [krcells_len]
  · rcases r.row.2 with ⟨e, _⟩ | ⟨g', cap', cur, e, hbg, hg, hnc, hcm, hcs, htake⟩
    · cases e
    · cases e
      refine .inr ⟨g, cap, _, by rw [List.length_set], hbg, heap_setCell_same W g (i * 4 + 3) _ _ _ hg, by rw [List.length_set]; exact hnc, hcm, by simpa using hcs, ?_⟩
      rw [krcells_set L i x f hi, ← htake, List.length_set, Array.toList_setIfInBounds, List.take_set]
/-- What a call of Speak may turn: the tally's block and its row's. -/
structure RFr (w w' : World) (pr : Nat) (v : Value) : Prop where
  os : w'.os = w.os
  tape : w'.tape = w.tape
  output : w'.output = w.output
  size : w.heap.size ≤ w'.heap.size
  block : ∀ j, j < w.heap.size → j ≠ pr → v.ownBlock ≠ some j → w'.heap[j]? = w.heap[j]?
set_option maxRecDepth 10000 in
set_option maxHeartbeats 1600000 in
theorem rspeak_node {w : World} {pr h B : Nat} {c : Cf} {v : Value} {L : List Kr} (r : RT w pr h B c v L) (n num : Nat) (node nd : Int) (hn : c.node nd = false) :
    Calls Try.prog 60 #[.pointer (some ⟨pr, 0, none⟩), .int .u64 (n : Int), .agg #[.int .u64 (num : Int), .int .i64 node], .int .i64 nd] w fun e w' => e = .returned (.tuple #[.int .i64 0, .int .i64 182]) ∧ Below w.heap.size w w' := by
  obtain ⟨W1, hW1⟩ : ∃ W1, w.alloc (.cells #[.int .u64 (num : Int), .int .i64 node] 36) = W1 := ⟨_, rfl⟩
  have b1 : Below w.heap.size w W1 := by rw [← hW1]; exact (Below.refl _ w).alloc (Nat.le_refl _) _
  have HW1 := hide hW1
  have B1 := hide b1
  have R1 := hide (r.kept b1)
  have KN := hide (refNode nd R1.out.grp)
  have q0 := block_cell R1.out.blk 0
  have q2 := block_lt R1.out.blk
  simp at q0
  rw [hn] at KN
  clear r b1 hW1 hn
  go_enter Try.func60, Try.ntmps60
  go_upto_region 1 with fail
  rw [HW1.out]
  clear HW1
  go_wp2_with fail
  refine KN.out.mono ?_
  rintro e w2 ⟨rfl, rfl⟩
  go_wp2
  go_ret2
  exact ⟨rfl, B1.out⟩
set_option maxRecDepth 10000 in
set_option maxHeartbeats 1600000 in
theorem rspeak_full {w : World} {pr h B : Nat} {c : Cf} {v : Value} {L : List Kr} (r : RT w pr h B c v L) (hL : L.length = 64) (n num : Nat) (node nd : Int) (hn : c.node nd = true) (hno : ∀ x ∈ L, x.is n num node = false) :
    Calls Try.prog 60 #[.pointer (some ⟨pr, 0, none⟩), .int .u64 (n : Int), .agg #[.int .u64 (num : Int), .int .i64 node], .int .i64 nd] w fun e w' => e = .returned (.tuple #[.int .i64 0, .int .i64 185]) ∧ Below w.heap.size w w' := by
  obtain ⟨W1, hW1⟩ : ∃ W1, w.alloc (.cells #[.int .u64 (num : Int), .int .i64 node] 36) = W1 := ⟨_, rfl⟩
  have b1 : Below w.heap.size w W1 := by rw [← hW1]; exact (Below.refl _ w).alloc (Nat.le_refl _) _
  have C1 : Hid (W1.heap[w.heap.size]? = some (.cells #[.int .u64 (num : Int), .int .i64 node] 36 (0, 0))) := by rw [← hW1]; exact alloc_atK _ _
  have HW1 := hide hW1
  have B1 := hide b1
  have R1 := hide (r.kept b1)
  have KN := hide (refNode nd R1.out.grp)
  have HF := hide (rfind R1.out (by omega) n num node)
  have q0 := block_cell R1.out.blk 0
  have q2 := block_lt R1.out.blk
  have x0 : W1.cell? ⟨w.heap.size, 0, none⟩ = some (.int .u64 (num : Int)) := block_cell C1.out 0
  have x1 : W1.cell? ⟨w.heap.size, 1, none⟩ = some (.int .i64 node) := block_cell C1.out 1
  have hl1 := block_lt C1.out
  have HNO := hide hno
  have HL := hide hL
  simp at q0
  rw [hn] at KN
  clear r b1 hW1 hn hno hL
  go_enter Try.func60, Try.ntmps60
  go_upto_region 1 with fail
  rw [HW1.out]
  clear HW1
  go_wp2_with fail
  refine KN.out.mono ?_
  rintro e w2 ⟨rfl, rfl⟩
  go_wp2_with fail
  refine HF.out.mono ?_
  rintro e w3 ⟨z, rfl, G2⟩
  have B2 := hide (B1.out.trans (G2.out.2.mono B1.out.size))
  have R2 := hide (R1.out.kept G2.out.2)
  rcases G2.out.1 with ⟨i, x, hi, hx, rfl⟩ | ⟨_, rfl⟩
  · rw [HNO.out x (List.mem_of_getElem? hi)] at hx
    cases hx
  · have q1 := block_cell R2.out.blk 1
    have q3 := block_lt R2.out.blk
    obtain ⟨ao, cap, hv⟩ := R2.out.list
    simp at q1
    rw [hv, HL.out] at q1
    clear q0 q2 x0 x1 hl1 G2 hv
    go_wp2
    go_ret2
    exact ⟨rfl, B2.out⟩
end Go.Proofs.Ythfiafjhnidlkaa
namespace Go.Proofs.Ythfiafjhnidlkaa
open Go.RowKit

set_option maxRecDepth 10000 in
set_option maxHeartbeats 3200000 in
theorem rspeak_found {w : World} {pr h B : Nat} {c : Cf} {v : Value} {L : List Kr} (r : RT w pr h B c v L) (hL : L.length ≤ 64) (hs : ∀ x ∈ L, x.fr < 4294967296) (ha : Apart L) (n num : Nat) (node nd : Int) (hn : c.node nd = true) {i : Nat} {x : Kr} (hi : L[i]? = some x) (hx : x.is n num node = true) :
    Calls Try.prog 60 #[.pointer (some ⟨pr, 0, none⟩), .int .u64 (n : Int), .agg #[.int .u64 (num : Int), .int .i64 node], .int .i64 nd] w fun e w' => e = .returned (.tuple #[.int .i64 ((countB (withB x.fr nd) : Nat) : Int), .int .i64 0]) ∧ Hid (RT w' pr h B c v (L.set i ⟨x.n, x.num, x.node, withB x.fr nd⟩) ∧ w.grownBy w' v.ownBlock) := by
  obtain ⟨W1, hW1⟩ : ∃ W1, w.alloc (.cells #[.int .u64 (num : Int), .int .i64 node] 36) = W1 := ⟨_, rfl⟩
  have b1 : Below w.heap.size w W1 := by rw [← hW1]; exact (Below.refl _ w).alloc (Nat.le_refl _) _
  have C1 : Hid (W1.heap[w.heap.size]? = some (.cells #[.int .u64 (num : Int), .int .i64 node] 36 (0, 0))) := by rw [← hW1]; exact alloc_atK _ _
  have HW1 := hide hW1
  have B1 := hide b1
  have R1 := hide (r.kept b1)
  have KN := hide (refNode nd R1.out.grp)
  have HF := hide (rfind R1.out (by omega) n num node)
  have q0 := block_cell R1.out.blk 0
  have q2 := block_lt R1.out.blk
  have x0 : W1.cell? ⟨w.heap.size, 0, none⟩ = some (.int .u64 (num : Int)) := block_cell C1.out 0
  have x1 : W1.cell? ⟨w.heap.size, 1, none⟩ = some (.int .i64 node) := block_cell C1.out 1
  have hl1 := block_lt C1.out
  have hxs := hs x (List.mem_of_getElem? hi)
  have KW := hide (fun V => refWith x.fr hxs nd V)
  have KCt := hide (fun V => refCount (withB x.fr nd) (withB_lt _ nd hxs) V)
  have HA := hide ha
  have HI := hide hi
  have HX := hide hx
  have hil := (List.getElem?_eq_some_iff.1 hi).1
  simp at q0
  rw [hn] at KN
  clear r b1 hW1 hn hs hxs hi hx ha
  go_enter Try.func60, Try.ntmps60
  go_upto_region 1 with fail
  rw [HW1.out]
  clear HW1
  go_wp2_with fail
  refine KN.out.mono ?_
  rintro e w2 ⟨rfl, rfl⟩
  go_wp2_with fail
  refine HF.out.mono ?_
  rintro e w3 ⟨z, rfl, G2⟩
  have B2 := hide (B1.out.trans (G2.out.2.mono B1.out.size))
  have R2 := hide (R1.out.kept G2.out.2)
  have hz : z = (i : Int) := by
    rcases G2.out.1 with ⟨i', x', hi', hx', rfl⟩ | ⟨hno, _⟩
    · rw [HA.out _ _ _ _ _ _ _ hi' HI.out hx' HX.out]
    · have := hno x (List.mem_of_getElem? HI.out)
      rw [HX.out] at this
      cases this
  subst hz
  obtain ⟨a, u, d, f, g, cap', hx', hvv, hgl, y0, y1, y2, y3⟩ := R2.out.get (i := i) hil
  have HX' : Hid (L[i]? = some x) := HI.out
  have hf : f = x.fr := by
    rw [HI.out] at hx'
    cases hx'
    rfl
  subst hvv hf
  clear q0 q2 x0 x1 hl1 G2 hx' y0 y1 y2 y3 hgl
  obtain ⟨SD, hSD⟩ : ∃ SD : Bool → World → Prop, SD = fun d V => RT V pr h B c (.slice (some ⟨g, 0, none⟩) L.length cap') (if d = true then L.set i ⟨x.n, x.num, x.node, withB x.fr nd⟩ else L) ∧ w3.grownBy V (some g) := ⟨_, rfl⟩
  have KD : Hid (∀ d V, Hid (SD d V) → V.cell? ⟨pr, 1, none⟩ = some (.slice (some ⟨g, 0, none⟩) L.length cap') ∧ pr < V.heap.size ∧ g < V.heap.size) := fun d V hV => by
    have h0 := hV.out
    rw [hSD] at h0
    refine ⟨block_cell h0.1.blk 1, block_lt h0.1.blk, ?_⟩
    obtain ⟨_, _, _, _, g', cp, _, hvv, hgl, _⟩ := h0.1.get (i := i) (by cases d <;> simpa using hil)
    have e1 := congrArg Value.ownBlock hvv
    cases e1
    exact hgl
  have KF : Hid (∀ V, Hid (SD false V) → V.cell? ⟨g, i * 4 + 3, none⟩ = some (.int .u32 ((x.fr : Nat) : Int)) ∧ V.frozen? ⟨g, i * 4 + 3, none⟩ = false ∧ Hid (SD true (V.setCell ⟨g, i * 4 + 3, none⟩ (.int .u32 ((withB x.fr nd : Nat) : Int))))) := fun V hV => by
    have h0 := hV.out
    rw [hSD] at h0
    simp only [Bool.false_eq_true, if_false] at h0
    obtain ⟨a, u, d, f, g', cp, hx', hvv, hgl, _, _, _, y3⟩ := h0.1.get (i := i) hil
    cases hvv
    rw [HI.out] at hx'
    cases hx'
    refine ⟨y3, h0.1.free _, ?_⟩
    show SD true _
    rw [hSD]
    exact ⟨h0.1.set HI.out _, grown_trans h0.2 (grown_set _ _ _ _)⟩
  have KT : Hid (∀ V, Hid (SD true V) → V.cell? ⟨g, i * 4 + 3, none⟩ = some (.int .u32 ((withB x.fr nd : Nat) : Int)) ∧ RT V pr h B c (.slice (some ⟨g, 0, none⟩) L.length cap') (L.set i ⟨x.n, x.num, x.node, withB x.fr nd⟩) ∧ w.grownBy V (some g)) := fun V hV => by
    have h0 := hV.out
    rw [hSD] at h0
    simp only [if_true] at h0
    obtain ⟨a, u, d, f, g', cp, hx', hvv, hgl, _, _, _, y3⟩ := h0.1.get (i := i) (by simpa using hil)
    have e1 := congrArg Value.ownBlock hvv
    cases e1
    rw [List.getElem?_set_self hil] at hx'
    cases hx'
    exact ⟨y3, h0.1, grown_trans (below_grownS B2.out _) h0.2⟩
  have S0 : Hid (SD false w3.drew) := by
    show SD false _
    rw [hSD]
    simp only [Bool.false_eq_true, if_false]
    have hb : Below w3.heap.size w3 w3.drew := (Below.refl _ _).drew
    exact ⟨R2.out.kept hb, below_grownS hb _⟩
  have hneg : ¬ ((i : Nat) : Int) < 0 := by omega
  clear hSD
  generalize hcn : ((countB (withB x.fr nd) : Nat) : Int) = cn at *
  have HCN := hide hcn
  clear hcn
  generalize ((withB x.fr nd : Nat) : Int) = x1 at *
  generalize ((x.fr : Nat) : Int) = xf at *
  go_upto_region 9 with fail
  refine region_assignP (fun d V => Hid (SD d V)) 17 [14, 12] [(48, .pointer (some ⟨pr, 0, none⟩)), (49, .pointer (some ⟨pr, 0, none⟩)), (50, .pointer (some ⟨pr, 1, none⟩)), (51, .slice (some ⟨g, 0, none⟩) L.length cap'), (52, .int .i64 (i : Nat)), (53, .pointer (some ⟨pr, 0, none⟩)), (54, .pointer (some ⟨pr, 0, none⟩)), (55, .pointer (some ⟨pr, 1, none⟩)), (56, .slice (some ⟨g, 0, none⟩) L.length cap'), (57, .int .i64 (i : Nat)), (58, .pointer (some ⟨g, i * 4, none⟩)), (59, .pointer (some ⟨g, i * 4 + 3, none⟩)), (60, .int .u32 xf), (61, .int .i64 nd), (62, .int .u32 x1), (63, .pointer (some ⟨g, i * 4, none⟩)), (64, .pointer (some ⟨g, i * 4 + 3, none⟩))] _ (by kernel_rfl) (by decide) (by kernel_rfl) (by kernel_rfl) (by kernel_rfl) (by kernel_rfl) rfl S0 ?_ (fun V2 HV2 => ?_)
  · simp only [putAll, Act.put, List.setIfInBounds_toArray, List.set_cons_zero, List.set_cons_succ]
    repeat' (first | exact AllPre.nil | refine AllPre.at_ rfl ?_ ?_ | refine AllPre.pre (by decide) (by decide) ?_ ?_ | refine AllPre.off (by decide) (by decide) ?_ ?_)
    all_goals first
      | (intro d
         refine stepTo_yes (by rfl) (fun V hV K hK => ?_)
         have q0 := KD.out d V hV
         go_simp
         exact hK.out _ hV)
      | (refine stepTo_yes (by rfl) (fun V hV K hK => ?_)
         have q0 := KD.out false V hV
         have q1 := KF.out V hV
         obtain ⟨q1, q2, q3⟩ := q1
         clear q3
         go_simp
         first
           | exact hK.out _ hV
           | (go_at_call 21; refine (KW.out V).mono ?_; rintro e V' ⟨rfl, rfl⟩; exact hK.out _ hV))
      | (refine ⟨by rfl, fun V hV K hK => ?_⟩
         have q0 := KD.out false V hV
         obtain ⟨q1, q2, q3⟩ := KF.out V hV
         have H3 := hide q3
         clear q3
         go_simp
         exact hK.out _ H3.out)
  simp only [putAll, Act.put, List.setIfInBounds_toArray, List.set_cons_zero, List.set_cons_succ]
  have r0 := KD.out true _ HV2
  obtain ⟨r1, r2⟩ := KT.out _ HV2
  have R3 := hide r2
  clear r2
  go_wp2_with fail
  refine (KCt.out _).mono ?_
  rintro e w5 ⟨rfl, rfl⟩
  go_wp2
  go_ret2
  exact ⟨by rw [HCN.out]; rfl, R3.out⟩
end Go.Proofs.Ythfiafjhnidlkaa
