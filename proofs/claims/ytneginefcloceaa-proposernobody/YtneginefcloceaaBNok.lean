import Derived.Test.YtneginefcloceaaBNew
import Derived.Deep.RegionHeld
import Derived.Deep.RegionWith
namespace Go.Proofs.Ytneginefcloceaa
open Go.RowKit

theorem new_fin {w w2 : World} {p : Nat} (hb : Below w.heap.size w w2) (hp : w.heap.size ≤ p) (u0 u1 : Value) (o1 o2 : Obj) :
    Below w.heap.size w ((((w2.setCell ⟨p, 0, none⟩ u0).setCell ⟨p, 1, none⟩ u1).alloc o1).alloc o2).drew ∧ ((((w2.setCell ⟨p, 0, none⟩ u0).setCell ⟨p, 1, none⟩ u1).alloc o1).alloc o2).drew.heap[w2.heap.size]? = some o1 ∧ ((((w2.setCell ⟨p, 0, none⟩ u0).setCell ⟨p, 1, none⟩ u1).alloc o1).alloc o2).drew.heap[w2.heap.size + 1]? = some o2 := by
  have b2 := (hb.setCell (p := ⟨p, 0, none⟩) hp u0).setCell (p := ⟨p, 1, none⟩) hp u1
  have hs : ((w2.setCell ⟨p, 0, none⟩ u0).setCell ⟨p, 1, none⟩ u1).heap.size = w2.heap.size := by simp
  generalize ((w2.setCell ⟨p, 0, none⟩ u0).setCell ⟨p, 1, none⟩ u1) = W at *
  refine ⟨((b2.alloc b2.size o1).alloc (by have := b2.size; simp; omega) o2).drew, ?_, ?_⟩
  · rw [← hs]
    exact (Below.heap_alloc (W.alloc o1) o2 W.heap.size (by simp)).trans (alloc_atK W o1)
  · have h := alloc_atK (W.alloc o1) o2
    rw [show (W.alloc o1).heap.size = W.heap.size + 1 by simp, hs] at h
    exact h
end Go.Proofs.Ytneginefcloceaa
