import Derived.Test.YtpdjnbpjgpdnkaaGreatDoorX41
import Derived.Test.YtpdjnbpjgpdnkaaGreatDoorX43
namespace Go.Proofs.YtpdjnbpjgpdnkaaGreatDoor
open Go.RowKit

section
variable {c : Mc} {p : Pv} {k : Kn} {mb : Nat} {s : Ms} {w : World}
set_option maxRecDepth 10000 in
set_option maxHeartbeats 1600000 in
/-- Step of the program's machine. -/
theorem stepC {cb co cc ib io ic : Nat} (he : Me p k c.ek c.ev c.hd) (hr : Mr c p mb cb co cc ib io ic w) (ht : Tm p k c.hd s) (h : Pm c mb s w) (ho : s.ov = false) : Calls Tryz.prog 13 #[.pointer (some ⟨mb, 0, none⟩)] w fun e w' => e = .returned (.bool true) ∧ Hid (Gm c mb (stepF p c.ek c.ev c.hd s) w w') := by
 have HCY := hide (carryC he hr ht h 1 (by decide))
 have e1 : runN p c.ek c.ev c.hd 1 s = stepF p c.ek c.ev c.hd s := by
  show (if s.ov = true then s else _) = _
  rw [ho]
  rfl
 rw [e1] at HCY
 have c0 : w.cell? ⟨mb, 0, none⟩ = some (.bool true) := h.cell (i := 0) (by decide)
 have c1 : w.cell? ⟨mb, 411, none⟩ = some (.bool false) := by rw [← ho]; exact h.cell (i := 411) (by decide)
 have hl := h.lt
 clear he hr ht h e1
 go_enter Tryz.func13, Tryz.ntmps13
 go_wp2_with fail
 refine HCY.out.mono ?_
 rintro e w1 ⟨rfl, G⟩
 go_wp2
 go_ret
 exact ⟨rfl, G⟩
set_option maxRecDepth 10000 in
set_option maxHeartbeats 1600000 in
theorem stepCo (h : Pm c mb s w) (ho : s.ov = true) : Calls Tryz.prog 13 #[.pointer (some ⟨mb, 0, none⟩)] w fun e w' => e = .returned (.bool false) ∧ w' = w := by
 have c0 : w.cell? ⟨mb, 0, none⟩ = some (.bool true) := h.cell (i := 0) (by decide)
 have c1 : w.cell? ⟨mb, 411, none⟩ = some (.bool true) := by rw [← ho]; exact h.cell (i := 411) (by decide)
 have hl := h.lt
 clear h
 go_enter Tryz.func13, Tryz.ntmps13
 go_wp2
 go_ret
 exact ⟨rfl, rfl⟩
end
/-- Nobody: nil, or a machine that no call made. -/
def Nbd (pm : Value) (w : World) : Prop := pm = .pointer none ∨ ∃ mb, pm = .pointer (some ⟨mb, 0, none⟩) ∧ mb < w.heap.size ∧ w.cell? ⟨mb, 0, none⟩ = some (.bool false) ∧ w.cell? ⟨mb, 411, none⟩ = some (.bool false)
theorem Nbd.next {pm : Value} {w w' : World} (h : Nbd pm w) (hb : Below w.heap.size w w') : Nbd pm w' := by
 rcases h with h | ⟨mb, e, l, c0, c1⟩
 ·exact .inl h
 ·exact .inr ⟨mb, e, Nat.lt_of_lt_of_le l hb.size, (hb.cell (p := ⟨mb, 0, none⟩) l).trans c0, (hb.cell (p := ⟨mb, 411, none⟩) l).trans c1⟩
end Go.Proofs.YtpdjnbpjgpdnkaaGreatDoor
