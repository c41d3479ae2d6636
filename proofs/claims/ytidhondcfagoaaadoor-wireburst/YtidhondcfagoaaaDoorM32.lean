import Derived.Test.YtidhondcfagoaaaDoorM31
import Derived.Test.YtidhondcfagoaaaDoorM24
import Derived.Test.YtidhondcfagoaaaDoorM26
namespace Go.Proofs.YtidhondcfagoaaaDoor
open Go.RowKit Crc

/-- What a request says. -/
def Rq.val (r : Rq) : Nat × Nat × List Nat := (r.cl, r.sq, r.C)
theorem below_dN {l : Nat} {w w1 : World} (h : Below l w w1) (q : Nat) : Below l w (w1.drewN q) := ⟨h.os, h.tape, h.output, h.size, h.block⟩

end Go.Proofs.YtidhondcfagoaaaDoor
namespace Go.Proofs.YtidhondcfagoaaaDoor
open Go.RowKit Crc

/-- The commands are lent copies. -/
def LentRs (w : World) (rs : List Rq) : Prop := ∀ r ∈ rs, ∃ gc, r.co = some ⟨gc, 0, none⟩ ∧ r.cc = r.cn + 4 ∧ Lent w gc r.cn r.C
theorem LentRs.below {w w' : World} {rs : List Rq} (h : LentRs w rs) (hb : Below w.heap.size w w') : LentRs w' rs := fun r hr => by
  obtain ⟨gc, h1, h2, h3⟩ := h r hr
  exact ⟨gc, h1, h2, h3.next (below_none hb) (by simp)⟩

end Go.Proofs.YtidhondcfagoaaaDoor
