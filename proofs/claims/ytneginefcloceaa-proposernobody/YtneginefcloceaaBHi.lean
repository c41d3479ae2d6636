import Derived.Test.YtneginefcloceaaBGrp
namespace Go.Proofs.Ytneginefcloceaa
open Go.RowKit

def Cf.high (c : Cf) (low : Nat) : Nat := addB low c.win c.ms
theorem RefG.drew {w : World} {p : Nat} {c : Cf} (h : RefG w p c) (q : Nat) : RefG (w.drewN q) p c := ⟨by simpa using h.cf, by simpa using h.cw, by simpa using h.cn, by simpa using h.cs, h.ok⟩
theorem RefG.below {w w' : World} {p B : Nat} {c : Cf} (h : RefG w p c) (hb : Below B w w') (hp : p < B) : RefG w' p c := ⟨(hb.cell (p := ⟨p, _, none⟩) hp).trans h.cf, (hb.cell (p := ⟨p, _, none⟩) hp).trans h.cw, (hb.cell (p := ⟨p, _, none⟩) hp).trans h.cn, (hb.cell (p := ⟨p, _, none⟩) hp).trans h.cs, h.ok⟩
def Cf.inside (c : Cf) (low slot : Nat) : Bool := decide (low ≤ slot ∧ slot < c.high low)
end Go.Proofs.Ytneginefcloceaa
