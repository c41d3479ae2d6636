import Derived.Test.YtggpaljilpbmhaaGreatDoorW04
import Derived.RangeFuncBox
import Derived.Deep.Cut
import Derived.BigQuiet
namespace Go.Proofs.YtggpaljilpbmhaaGreatDoor
open Go.RowKit

theorem alloc_atK (w : World) (o : Obj) : (w.alloc o).heap[w.heap.size]? = some o := by simp [World.alloc, -World.alloc_eq]
end Go.Proofs.YtggpaljilpbmhaaGreatDoor
namespace Go.Proofs.YtggpaljilpbmhaaGreatDoor
open Go.RowKit

theorem FV.get {lim : Nat} {w : World} {ao : Option Addr} {L : List Lk} {b off : Nat} (h : FV lim w ao L b off) {k : Nat} (hk : k < L.length) : ∃ layer at_, L[k]? = some ⟨layer, at_⟩ ∧ ao = some ⟨b, off, none⟩ ∧ b < lim ∧ w.cell? ⟨b, off + k * 2, none⟩ = some (.string layer) ∧ w.cell? ⟨b, off + k * 2 + 1, none⟩ = some (.int .i64 at_) := by
 have hg : L[k]? = some L[k] := List.getElem?_eq_getElem hk
 obtain ⟨c0, c1⟩ := h.at_ k _ hg
 exact ⟨L[k].layer, L[k].at_, hg, h.ad (by omega), h.lt (by omega), c0, c1⟩

end Go.Proofs.YtggpaljilpbmhaaGreatDoor
namespace Go.Proofs.YtggpaljilpbmhaaGreatDoor
open Go.RowKit

end Go.Proofs.YtggpaljilpbmhaaGreatDoor
