import Derived.Test.YtidhondcfagoaaaDoorM29
namespace Go.Proofs.YtidhondcfagoaaaDoor
open Go.RowKit Crc

/-- A field with the reach's own bounds. -/
structure Fl.Okx (base : Nat) (w : World) (f : Fl) : Prop where
  ok : f.Ok base w
  hbn : f.bn ≤ 140737488351232
  hSn : f.S.size ≤ 140737488351232
end Go.Proofs.YtidhondcfagoaaaDoor
namespace Go.Proofs.YtidhondcfagoaaaDoor
open Go.RowKit Crc

def clampW (m : Int) : Int := if m < 0 then 0 else if 65507 < m then 65507 else m
theorem clampW_le (m : Int) : 0 ≤ clampW m ∧ clampW m ≤ 65507 := by
  unfold clampW
  split
  · omega
  · split <;> omega
theorem foot_plain {w : World} {p j k : Nat} (hc : w.cell? ⟨p, j, none⟩ = some (.slice none 0 0)) (h : Foot w p j k) : k = p := by
  rcases h with h | ⟨u, hu, hg⟩
  · exact h
  · rw [hc] at hu
    cases hu
    cases hg
theorem Fl.Ok.belowB {base : Nat} {w w' : World} {f : Fl} (h : f.Ok base w) (hb : Below base w w') : f.Ok base w' := ⟨h.hN, h.hK1, h.hK2, h.hI1, h.hI2, h.hM1, h.hM2, h.hB.belowB hb, h.hS⟩

end Go.Proofs.YtidhondcfagoaaaDoor
