import Derived.Test.YtggpaljilpbmhaaGreatDoorW18
import Derived.StillTail
namespace Go.Proofs.YtggpaljilpbmhaaGreatDoor
open Go.RowKit

section
variable {P : Program} {ops : Array Oper} {Q : Exit → Act → World → Prop} {md : Region.Mode} {g : Nat} {S1 S2 : World → Prop}
/-- Each of these waits for the one ahead of it, the first for i. -/
def pathOk (md : Region.Mode) (ops : Array Oper) : Nat → List Nat → Bool
 | _, [] => true
 | i, m :: r => Region.waitsFor md ops m i && pathOk md ops m r
theorem path_not {listed : Array Bool} {j : Nat} (hj : j ∈ Region.ready md ops listed) : ∀ {ns : List Nat} {i : Nat}, pathOk md ops i ns = true → listed.getD i true = false → (∀ m ∈ ns, listed.getD m true = false) → j ∉ ns
 | [], _, _, _, _ => by simp
 | m :: r, i, hp, hi, hn => by
  simp only [pathOk, Bool.and_eq_true] at hp
  intro h
  rcases List.mem_cons.1 h with rfl | h
  ·obtain ⟨oj, hoj, e, he, hb, hon⟩ := Region.waitsFor_spec hp.1
   obtain ⟨_, oj2, hoj2, hall⟩ := mem_ready.1 hj
   have : oj = oj2 := Option.some.inj (hoj.symm.trans hoj2)
   subst this
   have h1 := hall e he hb
   rw [hon, getD_both hi] at h1
   cases h1
  ·exact path_not hj hp.2 (hn m (by simp)) (fun x hx => hn x (by simp [hx])) h
/-- A reading may be taken first, where number g, which alone ends S1, waits for it along a path. -/
theorem wpAnyL_path {i : Nat} {oi : Oper} {v : Value} (ns : List Nat) (hg : g ∈ ns) (hi : ops[i]? = some oi) (hig : i ≠ g) (hp : pathOk md ops i ns = true) (hsel : ∀ (j : Nat) (o : Oper) cs b, ops[j]? = some o → o.op ≠ .select cs b)
  (hQ : ∀ c a w, Q (.panic c) (a.put oi.dst v) w → Q (.panic c) a w) :
  ∀ (fuel : Nat) (listed : Array Bool) (a : Act) (w : World),
   (∀ j oj, ops[j]? = some oj → j ≠ i → listed.getD j true = false → (∀ e ∈ oj.after, Region.binds md e = true → e.on ≠ i) → oi.apart ops oj = true) →
   i ∈ Region.ready md ops listed → YieldsIf P ops S1 oi v a → (∀ m ∈ ns, listed.getD m true = false) → SSg g S1 S2 listed w →
   wpAnyL P md ops Q g S1 S2 fuel (listed.setIfInBounds i true) (a.put oi.dst v) w → wpAnyL P md ops Q g S1 S2 (fuel + 1) listed a w := by
 intro fuel
 induction fuel with
 | zero =>
  intro listed a w _ hr hy hG hS H
  refine ⟨fun h => (by rw [h] at hr; cases hr), fun j hj => ?_⟩
  by_cases q : j = i
  ·subst q; exact hy.wpOp hi (hS.1 (hG g hg)) ⟨(ssg_set hig _ _).2 hS, H⟩
  ·have := ready_mono hj q
   rw [H.1] at this
   cases this
 | succ fuel ih =>
  intro listed a w hfree hr hy hG hS H
  have hun := (mem_ready.1 hr).1
  refine ⟨fun h => (by rw [h] at hr; cases hr), fun j hj => ?_⟩
  by_cases q : j = i
  ·subst q; exact hy.wpOp hi (hS.1 (hG g hg)) ⟨(ssg_set hig _ _).2 hS, H⟩
  ·obtain ⟨hjun, oj, hoj, hall⟩ := mem_ready.1 hj
   have hnot : ∀ e ∈ oj.after, Region.binds md e = true → e.on ≠ i := fun e he hb heq => by
    have h1 := hall e he hb
    rw [heq, getD_both hun] at h1
    cases h1
   refine wpOp_mono (fun a' w' h3 => ?_) (wpOp_putIf hoj (hfree j oj hoj q hjun hnot) (fun cs b => hsel i oi cs b hi) (fun cs b => hsel j oj cs b hoj) hQ hy (H.2 j (ready_mono hj q)))
   have hS2 : SSg g S1 S2 (listed.setIfInBounds j true) w' := by
    have := h3.2.1
    rw [Array.setIfInBounds_comm _ _ (Ne.symm q)] at this
    exact (ssg_set hig _ _).1 this
   refine ⟨hS2, ih _ a' w' (fun k ok hk hki hu hno => hfree k ok hk hki ?_ hno) (ready_mono hr (Ne.symm q)) h3.1 (fun m hm => ?_) hS2 (by rw [Array.setIfInBounds_comm _ _ q]; exact h3.2.2)⟩
   ·by_cases e : j = k
    ·subst e; exact hjun
    ·rw [getD_set_ne true e] at hu; exact hu
   ·have : j ≠ m := fun e => path_not hj hp hun hG (e ▸ hm)
    rw [getD_set_ne true this]
    exact hG m hm
theorem wpAnyL_takeP {i : Nat} {oi : Oper} {v : Value} {fuel : Nat} {listed : Array Bool} {a : Act} {w : World} (ns : List Nat) (hi : ops[i]? = some oi) (hig : (ns.contains g && (i != g)) = true) (hp : pathOk md ops i ns = true)
  (hs : Region.noSelect ops = true) (hf : Region.free md ops listed i = true) (hr : (Region.ready md ops listed).contains i = true) (hn : (ns.all fun m => !(listed.getD m true)) = true)
  (hQ : ∀ c a w, Q (.panic c) (a.put oi.dst v) w → Q (.panic c) a w) (hy : YieldsIf P ops S1 oi v a) (hS : SSg g S1 S2 listed w)
  (h : SSg g S1 S2 (listed.setIfInBounds i true) w → wpAnyL P md ops Q g S1 S2 fuel (listed.setIfInBounds i true) (a.put oi.dst v) w) : wpAnyL P md ops Q g S1 S2 (fuel + 1) listed a w := by
 simp only [Bool.and_eq_true, bne_iff_ne, ne_eq] at hig
 have hg : g ∈ ns := by simpa using hig.1
 refine wpAnyL_path ns hg hi hig.2 hp (Region.noSelect_spec hs) hQ fuel listed a w (Region.free_spec hi hf) (by simpa using hr) hy (fun m hm => ?_) hS (h ((ssg_set hig.2 _ _).2 hS))
 have := List.all_eq_true.1 hn m hm
 simpa using this
end
end Go.Proofs.YtggpaljilpbmhaaGreatDoor
