import Derived.Test.YtidhondcfagoaaaDoorM25
import Derived.Test.YtidhondcfagoaaaDoorM1
namespace Go.Proofs.YtidhondcfagoaaaDoor
open Go.RowKit Crc

/-- The lent copy, as it lies. -/
def Lent (wi : World) (gc n : Nat) (B : List Nat) : Prop := n = B.length ∧ wi.ownsRow gc 5 1 (.slice (some ⟨gc, 0, none⟩) (n + 4) (n + 4)) (n + 4) (vals (B ++ marksTo 4))
theorem Lent.next {wi w' : World} {gc n : Nat} {B : List Nat} {row : Option Nat} (h : Lent wi gc n B) (hg : wi.grownBy w' row) (hr : row ≠ some gc) : Lent w' gc n B :=
  ⟨h.1, h.2.kept hg (.inr (by simpa [Value.ownBlock] using fun e => hr e.symm))⟩
theorem Lent.shows {wi : World} {gc n : Nat} {B : List Nat} (h : Lent wi gc n B) (hB : ∀ x ∈ B, x < 256) (hl : n ≤ 140737488355328) : Shows wi.heap.size wi (some ⟨gc, 0, none⟩) n (n + 4) B := by
  refine ⟨h.1, by omega, hl, hB, gc, 0, fun _ => rfl, fun _ => owned_lt2 h.2, fun i hi => ?_⟩
  have := owned_cells h.2 i (by omega)
  rw [List.getD_eq_getElem?_getD, List.getElem?_append_left (by have := h.1; omega)] at this
  rw [Nat.zero_add, this, List.getD_eq_getElem?_getD]
theorem lend_sh {lim : Nat} {ao : Option Addr} {B : List Nat} {n cap : Nat} {w : World} (h : Shows lim w ao n cap B) (hl : lim ≤ w.heap.size) :
    Calls Tryd.prog 5 #[.slice ao n cap] w fun e w' => e = .returned (.slice (some ⟨w.heap.size, 0, none⟩) n (n + 4)) ∧ Lent w' w.heap.size n B ∧ Below w.heap.size w w' := by
  obtain ⟨h1, h2, h3, h4, b, off, h5, h6, h7⟩ := h
  exact (lend_any b off ao B n cap w h5 h1 h3 (fun h => Nat.lt_of_lt_of_le (h6 h) hl) h7).mono fun e w' ⟨p, q, r⟩ => ⟨p, ⟨h1, q⟩, r⟩
end Go.Proofs.YtidhondcfagoaaaDoor
namespace Go.Proofs.YtidhondcfagoaaaDoor
open Go.RowKit Crc

end Go.Proofs.YtidhondcfagoaaaDoor
