import Derived.Test.YtidhondcfagoaaaDoorM13
import Derived.Test.YtidhondcfagoaaaDoorM12
import Derived.Test.YtidhondcfagoaaaDoorM7
import Derived.Deep.RegionHeld
namespace Go.Proofs.YtidhondcfagoaaaDoor
open Go.RowKit Crc

/-- A writer's state. -/
structure WS where
  made : Bool
  place : Int
  why : Int
  most : Int
  L : List Nat
  K : Kd
def WS.sound (s : WS) : Prop := s.made = true ∧ s.why = 0
instance (s : WS) : Decidable s.sound := by unfold WS.sound; exact inferInstance
/-- A field that is to be laid down, with its own reason not to. -/
def WS.put (s : WS) (F : List Nat) (y : Int) : WS := if s.sound then (if y ≠ 0 then { s with place := (s.L.length : Int), why := y } else if s.most < ((s.L.length + F.length : Nat) : Int) then { s with place := (s.L.length : Int), why := 21 } else { s with L := s.L ++ F }) else s
def WS.takes (s : WS) (F : List Nat) (y : Int) : Prop := s.sound ∧ y = 0 ∧ ((s.L.length + F.length : Nat) : Int) ≤ s.most
def WrS (base : Nat) (w : World) (p : Nat) (s : WS) : Prop := Wr s.K base w p s.made s.place s.why s.most s.L
theorem WS.put_takes {s : WS} {F : List Nat} {y : Int} (h : s.takes F y) : s.put F y = { s with L := s.L ++ F } := by
  unfold WS.put
  rw [if_pos h.1, if_neg (by simp [h.2.1]), if_neg (by have := h.2.2; omega)]
theorem WS.put_not {s : WS} (hs : ¬ s.sound) (F : List Nat) (y : Int) : s.put F y = s := by unfold WS.put; rw [if_neg hs]
theorem WS.put_own {s : WS} (hs : s.sound) (F : List Nat) {y : Int} (hy : y ≠ 0) : s.put F y = { s with place := (s.L.length : Int), why := y } := by unfold WS.put; rw [if_pos hs, if_pos hy]
theorem WS.put_long {s : WS} (hs : s.sound) {F : List Nat} (hl : s.most < ((s.L.length + F.length : Nat) : Int)) : s.put F 0 = { s with place := (s.L.length : Int), why := 21 } := by unfold WS.put; rw [if_pos hs, if_neg (by simp), if_pos hl]

/-- A fault noted. -/
theorem WrS.failed {base p : Nat} {w : World} {s : WS} (h : WrS base w p s) (q : Nat) (y : Int) :
    WrS base (((w.drewN q).setCell ⟨p, 1, none⟩ (.int .i64 (s.L.length : Int))).setCell ⟨p, 2, none⟩ (.int .i64 y)) p { s with place := (s.L.length : Int), why := y } ∧ w.grownBy (((w.drewN q).setCell ⟨p, 1, none⟩ (.int .i64 (s.L.length : Int))).setCell ⟨p, 2, none⟩ (.int .i64 y)) (some p) := by
  obtain ⟨v, hb, hO, hne⟩ := h
  have hb1 : ((w.drewN q).setCell ⟨p, 1, none⟩ (.int .i64 (s.L.length : Int))).heap[p]? = some (.cells (List.toArray (.bool s.made :: .int .i64 (s.L.length : Int) :: .int .i64 s.why :: .int .i64 s.most :: v :: s.K.R)) s.K.t (0, 0)) := by
    rw [heap_setCell_same (w.drewN q) p 1 _ _ _ (show (w.drewN q).heap[p]? = _ from hb)]; simp
  refine ⟨⟨v, ?_, ((hO.drew q).kept (grown_set _ _ _ _) (.inr hne)).kept (grown_set _ _ _ _) (.inr hne), hne⟩, grown_trans (row := some p) (grown_trans (a := w) (b := w.drewN q) (row := some p) ⟨rfl, rfl, rfl, Nat.le_refl _, fun _ _ _ => rfl⟩ (grown_set (w.drewN q) _ _ _)) (grown_set _ _ _ _)⟩
  rw [heap_setCell_same _ p 2 _ _ _ hb1]; simp

end Go.Proofs.YtidhondcfagoaaaDoor
namespace Go.Proofs.YtidhondcfagoaaaDoor
open Go.RowKit Crc

theorem drop_drop_pos (B : List Nat) (pos k : Nat) : (B.drop pos).getD k 0 = B.getD (pos + k) 0 := by
  rw [List.getD_eq_getElem?_getD, List.getElem?_drop, ← List.getD_eq_getElem?_getD]
theorem RS.rest_eq {s : RS} (hs : s.sound) : s.rest = s.B.drop s.pos := by unfold RS.rest restB; rw [if_pos (show s.made = true ∧ s.why = 0 from hs)]
theorem RS.step_fail {s : RS} (hs : s.sound) (z : Nat) {y : Int} (hy : y ≠ 0) : s.step z y = { s with why := y, place := s.pos, pos := s.pos } := by unfold RS.step; rw [if_pos hs, if_neg hy]
theorem RS.step_ok {s : RS} (hs : s.sound) (z : Nat) : s.step z 0 = { s with pos := s.pos + z } := by unfold RS.step; rw [if_pos hs]; rfl

end Go.Proofs.YtidhondcfagoaaaDoor
