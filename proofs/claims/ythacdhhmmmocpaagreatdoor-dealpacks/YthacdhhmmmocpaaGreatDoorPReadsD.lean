import Derived.Test.YthacdhhmmmocpaaGreatDoorPReadsC
import Derived.Test.YthacdhhmmmocpaaGreatDoorPSame
import Derived.Test.YthacdhhmmmocpaaGreatDoorPLawA
import Derived.Test.YthacdhhmmmocpaaGreatDoorPSpoil
import Derived.Test.YthacdhhmmmocpaaGreatDoorPKept
import Derived.Test.YthacdhhmmmocpaaGreatDoorPLent
namespace Go.Proofs.YthacdhhmmmocpaaGreatDoor
open Go.RowKit Crc

/-- A new block's cells, behind the program's step and the reference's. -/
theorem Pair.cellP {base limr d pv : Nat} {po : Option Addr} {w wx w1 : World} {s : RS} (h : Pair base limr d pv po w s) {b j : Nat} {v : Value} (hb : w.heap.size ≤ b) (hc : wx.cell? ⟨b, j, none⟩ = some v) (hg : wx.grownBy w1 (rowP po)) : w1.cell? ⟨b, j, none⟩ = some v :=
  hg.cell hc (fun e => by have := (h.bpo b e.symm).2; omega)
theorem Pair.cellR {base limr d pv : Nat} {po : Option Addr} {w wx w1 : World} {s : RS} (h : Pair base limr d pv po w s) {b j : Nat} {v : Value} (hb : w.heap.size ≤ b) (hc : wx.cell? ⟨b, j, none⟩ = some v) (hg : wx.grownBy w1 (some pv)) : w1.cell? ⟨b, j, none⟩ = some v :=
  hg.cell hc (fun e => by have h1 := h.pvlt; have h2 : b = pv := (by simpa using e); omega)

theorem blobAt_len (B : List Nat) (most : Int) : (blobAt B most).1.length ≤ B.length := by
  unfold blobAt
  split
  · simp
  · split
    · simp
    · simp only [List.length_take, List.length_drop]; omega
theorem rest_le (s : RS) : s.rest.length ≤ s.B.length := by
  unfold RS.rest restB
  split
  · rw [List.length_drop]; omega
  · simp
theorem own_far {base : Nat} {w : World} {v : Value} {B : List Nat} (h : Owns base w v B) : ∀ g, v.ownBlock = some g → base ≤ g := by
  intro g hg
  obtain ⟨a0, c0, rfl, _, (⟨rfl, _⟩ | ⟨g', rfl, hb, _⟩)⟩ := h.form
  · cases hg
  · have : g' = g := by simpa [Value.ownBlock] using hg
    omega

end Go.Proofs.YthacdhhmmmocpaaGreatDoor
