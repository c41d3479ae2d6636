import Derived.Test.YtmoklddfaocihaaDoorCvY
namespace Go.Proofs.YtmoklddfaocihaaDoor
open Go.RowKit

/-- What lend hands out. -/
def Ln (W : World) (p : Pv) (e : Ending) (w' : World) : Prop := ∃ g' : Pg, e = .returned (.agg (g'.cs p).toArray) ∧ Hid (g'.Ok p w'.heap.size w' ∧ Sp g' p w'.heap.size w' ∧ Below W.heap.size W w')
theorem sameKL {W : World} {v1 v2 : Value} {l : List Bool} (h1 : KL W.heap.size W v1 l) (h2 : KL W.heap.size W v2 l) (hl : l.length ≤ 64) : Calls Tryd.prog 33 #[v1, v2] W fun e w' => e = .returned (.bool true) ∧ Hid (Below W.heap.size W w') := by
  obtain ⟨a1, c1, b1, o1, rfl, _, x1, y1⟩ := h1
  obtain ⟨a2, c2, b2, o2, rfl, _, x2, y2⟩ := h2
  have key : ∀ (b o : Nat), (∀ j x, l[j]? = some x → W.cell? ⟨b, o + j, none⟩ = some (iv x)) → ∀ j, j < l.length → W.cell? ⟨b, o + j, none⟩ = some (.int .i64 (if l.getD j false then 1 else 0)) := fun b o y j hj => by
    rw [y j l[j] (List.getElem?_eq_getElem hj)]
    unfold iv
    rw [List.getD_eq_getElem?_getD, List.getElem?_eq_getElem hj]
    rfl
  exact sameIntsT (fun j => if l.getD j false then 1 else 0) x1 x2 (key b1 o1 y1) (key b2 o2 y2) (by omega)
end Go.Proofs.YtmoklddfaocihaaDoor
