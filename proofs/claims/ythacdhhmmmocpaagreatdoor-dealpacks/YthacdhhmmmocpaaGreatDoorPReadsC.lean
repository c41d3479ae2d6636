import Derived.Test.YthacdhhmmmocpaaGreatDoorM46
namespace Go.Proofs.YthacdhhmmmocpaaGreatDoor
open Go.RowKit Crc

theorem Res.from {base limr d pv : Nat} {po : Option Addr} {w w1 w2 : World} (hk : Keep base w w1) (h : Res base limr d pv po w1 w2) : Res base limr d pv po w w2 := ⟨h.1, hk.trans h.2⟩
theorem Res.keep {base limr d pv : Nat} {po : Option Addr} {w w2 : World} {s : RS} (h : Pair base limr d pv po w2 s ∧ Keep base w w2) : Res base limr d pv po w w2 := ⟨⟨s, h.1⟩, h.2⟩
theorem Pair.drew {base limr d pv : Nat} {po : Option Addr} {w : World} {s : RS} (h : Pair base limr d pv po w s) : Pair base limr d pv po w.drew s ∧ Keep base w w.drew := h.quiet (row := none) ⟨rfl, rfl, rfl, Nat.le_refl _, fun _ _ _ => rfl⟩ (fun g e => by cases e)

end Go.Proofs.YthacdhhmmmocpaaGreatDoor
