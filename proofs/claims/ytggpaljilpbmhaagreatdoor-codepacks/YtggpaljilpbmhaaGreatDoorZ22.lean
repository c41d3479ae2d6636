import Derived.Test.YtggpaljilpbmhaaGreatDoorZ03
import Derived.Test.YtggpaljilpbmhaaGreatDoorZ48
import Derived.Test.YtggpaljilpbmhaaGreatDoorZ46
import Derived.Test.YtggpaljilpbmhaaGreatDoorZ11
namespace Go.Proofs.YtggpaljilpbmhaaGreatDoor
open Go.RowKit

theorem grown_weakU {a b : World} (h : a.grownBy b none) (g : Nat) : a.grownBy b (some g) := ⟨h.os, h.tape, h.output, h.size, fun i hi _ => h.block i hi (by simp)⟩
theorem grown_belowU {w w' : World} (hb : Below w.heap.size w w') : w.grownBy w' none := ⟨hb.os, hb.tape, hb.output, hb.size, fun k hk _ => hb.block k hk⟩
end Go.Proofs.YtggpaljilpbmhaaGreatDoor
namespace Go.Proofs.YtggpaljilpbmhaaGreatDoor
open Go.RowKit

/-- A reader that has read so much of these bytes, soundly. -/
def rsU (B : List Nat) (pos : Nat) : RS := ⟨true, 0, 0, B, pos, KR⟩
theorem rsU_step (B : List Nat) (pos sz : Nat) (why : Int) : (rsU B pos).step sz why = if why = 0 then rsU B (pos + sz) else { rsU B pos with place := (pos : Int), why := why } := by
 unfold RS.step
 rw [if_pos (show (rsU B pos).sound from ⟨rfl, rfl⟩)]
 rfl
theorem rsU_rest (B : List Nat) (pos : Nat) : (rsU B pos).rest = B.drop pos := rfl
theorem rsU_why (B : List Nat) (pos sz : Nat) (why : Int) : ((rsU B pos).step sz why).why = why ∧ ((rsU B pos).step sz why).made = true ∧ (((rsU B pos).step sz why).sound → ((rsU B pos).step sz why).place = 0) := by
 rw [rsU_step]
 by_cases h : why = 0
 ·rw [if_pos h]; exact ⟨h.symm, rfl, fun _ => rfl⟩
 ·rw [if_neg h]; exact ⟨rfl, rfl, fun q => absurd q.2 h⟩
theorem ErrT.grown {w w' : World} {rp : Nat} (hg : ErrT w) (h : w.grownBy w' (some rp)) (hne : 1 ≠ rp) : ErrT w' := by
 have e := h.block 1 hg.lt (by simpa using hne)
 unfold ErrT at hg ⊢
 rw [← hg]
 simp only [World.cell?, e]
end Go.Proofs.YtggpaljilpbmhaaGreatDoor
namespace Go.Proofs.YtggpaljilpbmhaaGreatDoor
open Go.RowKit

/-- Why a place is refused, if it is. -/
def plW (most : Nat) (r : Nat × Nat × Int) : Int := if r.2.2 = 0 then (if most < r.1 then 1 else 0) else r.2.2
/-- Why the head is refused, if it is. -/
def hdW (B : List Nat) : Int := if aheadW B 2 = 0 ∧ hi (aheadV B 2) = 20803 ∧ aheadW (B.drop 2) 1 = 0 ∧ hi (aheadV (B.drop 2) 1) = 1 then 0 else 1
end Go.Proofs.YtggpaljilpbmhaaGreatDoor
