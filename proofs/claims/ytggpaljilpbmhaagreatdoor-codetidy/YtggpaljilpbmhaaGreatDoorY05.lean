import Derived.Test.YtggpaljilpbmhaaGreatDoorY04
import Derived.RangeFuncBox
import Derived.Deep.Cut
import Derived.BigQuiet
namespace Go.Proofs.YtggpaljilpbmhaaGreatDoor
open Go.RowKit

theorem cells_newK (W : World) (cs : List Value) (t : TypeId) : ∀ (j : Nat) (u : Value), cs[j]? = some u → (W.alloc (.cells cs.toArray t)).cell? (Addr.add ⟨W.heap.size, 0, none⟩ j) = some u := by
 intro j u hu
 have := World.cell?_alloc_new W cs.toArray t j
 have he : Addr.add ⟨W.heap.size, 0, none⟩ j = ⟨W.heap.size, j, none⟩ := by
  simp only [Addr.add]
  split <;> simp_all
 rw [he, this]
 simpa using hu
theorem alloc_atK (w : World) (o : Obj) : (w.alloc o).heap[w.heap.size]? = some o := by simp [World.alloc, -World.alloc_eq]
end Go.Proofs.YtggpaljilpbmhaaGreatDoor
namespace Go.Proofs.YtggpaljilpbmhaaGreatDoor
open Go.RowKit

end Go.Proofs.YtggpaljilpbmhaaGreatDoor
namespace Go.Proofs.YtggpaljilpbmhaaGreatDoor
open Go.RowKit

end Go.Proofs.YtggpaljilpbmhaaGreatDoor
