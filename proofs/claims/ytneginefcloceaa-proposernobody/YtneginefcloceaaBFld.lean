import Derived.Test.YtneginefcloceaaBGrp
import Derived.Test.YtneginefcloceaaBJoin
import Derived.Deep.DeepCutAuto
namespace Go.Proofs.Ytneginefcloceaa
open Go.RowKit

theorem both_true {p q : Prop} [Decidable p] [Decidable q] {b : Bool} (h : b = (decide p && decide q)) (g : p) : decide q = b := by rw [h, decide_eq_true g, Bool.true_and]
theorem both_false {p q : Prop} [Decidable p] [Decidable q] {b : Bool} (h : b = (decide p && decide q)) (g : ¬ p) : b = false := by rw [h, decide_eq_false g, Bool.false_and]
/-- The ten fields: which may be? -/
def Cf.oks (c : Cf) : List Bool := [decide (c.f ≥ 1) && decide (c.f ≤ 3), decide (c.mb ≥ 1) && decide (c.mb ≤ 8), decide ((c.delay : Int) ≤ 1000), decide ((c.win : Int) ≥ 1) && decide ((c.win : Int) ≤ 8), decide ((c.every : Int) ≥ 1) && decide ((c.every : Int) ≤ (c.win : Int)),
  decide ((c.beat : Int) ≥ 1) && decide ((c.beat : Int) ≤ 1000), decide ((c.ep : Int) ≥ 1) && decide ((c.ep : Int) ≤ 10000), decide ((c.em : Int) ≥ (c.ep : Int)) && decide ((c.em : Int) ≤ 100000), decide ((c.mn : Int) ≥ 1) && decide ((c.mn : Int) ≤ 1099511627776), decide ((c.ms : Int) ≥ 1) && decide ((c.ms : Int) ≤ 1099511627776)]
/-- The first that may not be, or -1. -/
def badOf (bs : List Bool) : Int := if bs.findIdx (fun b => !b) < bs.length then ((bs.findIdx (fun b => !b) : Nat) : Int) else -1
theorem badOf_at {bs : List Bool} {k : Nat} (hk : k < bs.length) (h : bs.getD k true = false) (hj : ∀ j, j < k → bs.getD j true = true) : badOf bs = (k : Int) := by
  have e : bs.findIdx (fun b => !b) = k := by
    rw [List.findIdx_eq hk]
    refine ⟨?_, fun j hjk => ?_⟩
    · rw [List.getD_eq_getElem?_getD, List.getElem?_eq_getElem hk] at h
      simpa using h
    · have := hj j hjk
      rw [List.getD_eq_getElem?_getD, List.getElem?_eq_getElem (by omega)] at this
      simpa using this
  unfold badOf
  rw [e, if_pos hk]
theorem badOf_no {bs : List Bool} (hj : ∀ j, j < bs.length → bs.getD j true = true) : badOf bs = -1 := by
  unfold badOf
  rw [if_neg]
  intro h
  have h1 := List.findIdx_getElem (w := h)
  have h2 := hj _ h
  rw [List.getD_eq_getElem?_getD, List.getElem?_eq_getElem h] at h2
  simp at h1 h2
  rw [h2] at h1
  cases h1
theorem ten_cells (w : World) (b0 b1 b2 b3 b4 b5 b6 b7 b8 b9 : Bool) (t : TypeId) (k : Nat) (hk : k < 10) :
    (w.alloc (.cells #[.bool b0, .bool b1, .bool b2, .bool b3, .bool b4, .bool b5, .bool b6, .bool b7, .bool b8, .bool b9] t)).cell? ⟨w.heap.size, k, none⟩ = some (.bool ([b0, b1, b2, b3, b4, b5, b6, b7, b8, b9].getD k true)) := by
  rw [World.cell?_alloc_mark]
  match k, hk with
  | 0, _ => rfl
  | 1, _ => rfl
  | 2, _ => rfl
  | 3, _ => rfl
  | 4, _ => rfl
  | 5, _ => rfl
  | 6, _ => rfl
  | 7, _ => rfl
  | 8, _ => rfl
  | 9, _ => rfl
end Go.Proofs.Ytneginefcloceaa
