import Derived.Test.YtidhondcfagoaaaDoorM19
import Derived.Test.YtidhondcfagoaaaDoorM11
import Derived.Lib.AppendStr
namespace Go.Proofs.YtidhondcfagoaaaDoor
open Go.RowKit Crc

theorem ownx_far {base : Nat} {w : World} {v : Value} {B : List Nat} (h : Owns base w v B) : ∀ g, v.ownBlock = some g → base ≤ g := by
  intro g hg
  obtain ⟨a0, c0, rfl, _, (⟨rfl, _⟩ | ⟨g', rfl, hb, _⟩)⟩ := h.form
  · cases hg
  · have : g' = g := by simpa [Value.ownBlock] using hg
    omega
end Go.Proofs.YtidhondcfagoaaaDoor
namespace Go.Proofs.YtidhondcfagoaaaDoor
open Go.RowKit Crc

end Go.Proofs.YtidhondcfagoaaaDoor
