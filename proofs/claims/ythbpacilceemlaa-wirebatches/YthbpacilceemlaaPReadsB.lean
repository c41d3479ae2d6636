import Derived.Test.YthbpacilceemlaaM41
import Derived.Deep.RegionHeld
namespace Go.Proofs.Ythbpacilceemlaa
open Go.RowKit Crc

theorem Pair.alloc {base limr d pv : Nat} {po : Option Addr} {w : World} {s : RS} (h : Pair base limr d pv po w s) (o : Obj) : Pair base limr d pv po (w.alloc o) s ∧ Keep base w (w.alloc o) := h.quiet (World.grownBy_alloc w o none) (fun g e => by cases e)
theorem Pair.below {base limr d pv : Nat} {po : Option Addr} {w w' : World} {s : RS} (h : Pair base limr d pv po w s) (hb : Below w.heap.size w w') : Pair base limr d pv po w' s ∧ Keep base w w' := h.quiet (below_none hb) (fun g e => by cases e)
theorem Pair.drewN {base limr d pv : Nat} {po : Option Addr} {w : World} {s : RS} (h : Pair base limr d pv po w s) (q : Nat) : Pair base limr d pv po (w.drewN q) s ∧ Keep base w (w.drewN q) := h.quiet (drew_grown w q) (fun g e => by cases e)

set_option maxRecDepth 10000 in
set_option maxHeartbeats 1600000 in
theorem stands_any {base limr d pv : Nat} {po : Option Addr} {w : World} {s : RS} (hP : Pair base limr d pv po w s) :
    Calls Try.prog 20 #[.pointer po, .pointer (some ⟨pv, 0, none⟩)] w fun e w' => e = .returned (.bool true) ∧ Pair base limr d pv po w' s ∧ Keep base w w' := by
  have HE := hide (refEnd_any d pv s w hP.ref)
  have HP := hide hP
  have HEP : Hid (∀ wx, Pair base limr d pv po wx s → Calls Try.prog 26 #[.pointer po] wx fun e w' => ∃ v, e = .returned v ∧ ErrV w' v s.endC s.endA ∧ Below wx.heap.size wx w') := fun wx h => rEndP h.prog h.place
  have HAT : Hid (∀ wx, Pair base limr d pv po wx s → Calls Try.prog 27 #[.pointer po] wx fun e w' => e = .returned (.int .i64 (s.pos : Nat)) ∧ w' = wx) := fun wx h => rAtP h.prog
  have HLF : Hid (∀ wx, Pair base limr d pv po wx s → Calls Try.prog 28 #[.pointer po] wx fun e w' => e = .returned (.int .i64 ((s.B.length - s.pos : Nat) : Int)) ∧ ∃ q, w' = wx.drewN q) := fun wx h => rLeftP h.prog
  have HRL : Hid (∀ wx, Pair base limr d pv po wx s → Calls Try.prog 69 #[.pointer (some ⟨pv, 0, none⟩)] wx fun e w' => e = .returned (.int .i64 ((s.B.length - s.pos : Nat) : Int)) ∧ ∃ q, w' = wx.drewN q) := fun wx h => refLeft_any d pv s wx h.ref h.plain
  have HC2 : Hid (∀ wx, Pair base limr d pv po wx s → wx.cell? ⟨pv, 2, none⟩ = some (.int .i64 (s.pos : Int))) := fun wx h => by
    obtain ⟨ao, cap, hb, -⟩ := h.ref
    have c2 := block_cell hb 2
    simpa using c2
  generalize s.endC = ec at *
  generalize s.endA = ea at *
  generalize hL : s.B.length - s.pos = L at *
  generalize hpp : s.pos = pos at *
  clear hP hL hpp
  go_enter Try.func20, Try.ntmps20
  go_wp2_with fail
  refine HE.out.mono ?_
  rintro e w1 ⟨rfl, hb1⟩
  have HP1 := hide (HP.out.below hb1)
  clear hb1
  go_wp2_with fail
  refine (HEP.out _ (HP1.out.1.alloc _).1).mono ?_
  rintro e w3 ⟨v, rfl, hv, hb3⟩
  have HP3 : Hid (Pair base limr d pv po w3 s ∧ Keep base w w3) := by
    have h1 := (HP1.out.1.alloc (.cells #[.int .i64 ec, .int .i64 ea] 34 (0, 0)))
    have h2 := h1.1.below hb3
    exact ⟨h2.1, (HP1.out.2.trans h1.2).trans h2.2⟩
  have a0 : w3.cell? ⟨w1.heap.size, 0, none⟩ = some (.int .i64 ec) := by
    have h := hb3.cell (p := ⟨w1.heap.size, 0, none⟩) (by simp)
    rw [h]
    simp
  have a1 : w3.cell? ⟨w1.heap.size, 1, none⟩ = some (.int .i64 ea) := by
    have h := hb3.cell (p := ⟨w1.heap.size, 1, none⟩) (by simp)
    rw [h]
    simp
  have a2 := HC2.out w3 HP3.out.1
  have HV := hide hv
  clear hv hb3 HP1 HE
  go_wp2_with fail
  refine (told_any HV.out).mono ?_
  rintro e w4 ⟨rfl, q, rfl⟩
  have HD : Hid (∀ q, Pair base limr d pv po (w3.drewN q) s) := fun q => (HP3.out.1.drewN q).1
  go_wp2_with fail
  go_region_held (fun w' => w'.cell? ⟨pv, 2, none⟩ = some (.int .i64 (pos : Int)) ∧ w'.cell? ⟨w1.heap.size, 0, none⟩ = some (.int .i64 ec) ∧ w'.cell? ⟨w1.heap.size, 1, none⟩ = some (.int .i64 ea)) (go_keep)
    (first
      | (go_at_call 27; refine (HAT.out _ (HD.out _)).mono ?_; rintro e w5 ⟨rfl, rfl⟩)
      | (go_at_call 28; refine (HLF.out _ (HD.out _)).mono ?_; rintro e w5 ⟨rfl, q5, rfl⟩)
      | (go_at_call 69; refine (HRL.out _ (HD.out _)).mono ?_; rintro e w5 ⟨rfl, q6, rfl⟩))
  all_goals go_wp2
  all_goals go_ret
  all_goals exact ⟨rfl, HD.out _, HP3.out.2.trans (HP3.out.1.drewN _).2⟩
end Go.Proofs.Ythbpacilceemlaa
