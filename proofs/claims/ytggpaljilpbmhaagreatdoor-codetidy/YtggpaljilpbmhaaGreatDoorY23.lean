import Derived.Test.YtggpaljilpbmhaaGreatDoorY20
import Derived.Test.YtggpaljilpbmhaaGreatDoorY22
namespace Go.Proofs.YtggpaljilpbmhaaGreatDoor
open Go.RowKit

/-- What a machine of the program holds that never turns. -/
structure Mc where
 (vC vI : Value) (ek ev : Nat → Int) (hd : Int) (kd : Nat → Int) (many : Nat)
/-- The cells of a machine. -/
def fcell (c : Mc) (s : Ms) (i : Nat) : Value :=
 if i < 20 then (if i = 0 then .bool true else if i = 1 then c.vC else if i = 2 then c.vI else if i = 19 then .int .u64 c.hd else if i % 2 = 1 then .int .i64 (c.ek ((i - 3) / 2)) else .int .u64 (c.ev ((i - 3) / 2)))
 else if i < 276 then (if i % 2 = 0 then .int .i64 (c.kd ((i - 20) / 2)) else .int .u64 (s.slt ((i - 20) / 2)))
 else if i = 276 then .int .i64 (c.many : Nat)
 else if i < 405 then (if i % 2 = 1 then .int .i64 (s.sk ((i - 277) / 2)) else .int .u64 (s.sv ((i - 277) / 2)))
 else if i < 408 then (if i = 405 then .int .i64 (s.h : Nat) else if i = 406 then .int .i64 s.pc else .int .u64 s.left)
 else if i < 411 then .int .u64 (s.paid (i - 408))
 else if i = 411 then .bool s.ov else if i = 412 then .int .i64 s.en else .int .u64 s.fail
def cellsM (c : Mc) (s : Ms) : List Value := (List.range 414).map (fcell c s)
/-- A machine as it lies. -/
structure Pm (c : Mc) (mb : Nat) (s : Ms) (w : World) : Prop where
 blk : w.heap[mb]? = some (.cells (cellsM c s).toArray 140 (0, 0))
section
variable {c : Mc} {mb : Nat} {s s' : Ms} {w w' : World}
theorem Pm.lt (h : Pm c mb s w) : mb < w.heap.size := block_lt h.blk
theorem Pm.cell (h : Pm c mb s w) {i : Nat} (hi : i < 414) : w.cell? ⟨mb, i, none⟩ = some (fcell c s i) := by
 rw [block_cell h.blk]
 simp [cellsM, hi]
theorem Pm.free (h : Pm c mb s w) (i : Nat) : w.frozen? ⟨mb, i, none⟩ = false := block_free h.blk i
theorem Pm.set (h : Pm c mb s w) {j : Nat} {v : Value} (hj : ∀ i, i < 414 → fcell c s' i = if i = j then v else fcell c s i) : Pm c mb s' (w.setCell ⟨mb, j, none⟩ v) := by
 refine ⟨?_⟩
 have e : (cellsM c s').toArray = (cellsM c s).toArray.setIfInBounds j v := by
  apply Array.ext'
  apply List.ext_getElem?
  intro i
  simp only [Array.toList_setIfInBounds, List.getElem?_set]
  unfold cellsM
  by_cases hi : i < 414
  ·simp only [List.getElem?_map, List.length_map, List.length_range]
   rw [List.getElem?_range hi]
   simp only [Option.map_some]
   rw [hj i hi]
   by_cases q : j = i
   ·subst q; simp [hi]
   ·rw [if_neg q, if_neg (fun e => q e.symm)]
  ·have h1 : ∀ f : Nat → Value, ((List.range 414).map f)[i]? = none := fun f => by rw [List.getElem?_eq_none]; simp; omega
   rw [h1, h1]
   split
   ·rename_i q; subst q; simp [hi]
   ·rfl
 rw [e]
 simp [World.setCell, Array.getElem?_modify, h.blk]
theorem Pm.grown {r : Option Nat} (h : Pm c mb s w) (hg : w.grownBy w' r) (hr : r ≠ some mb) : Pm c mb s w' := ⟨(hg.block _ h.lt (fun e => hr e.symm)).trans h.blk⟩
theorem Pm.below (h : Pm c mb s w) (hb : Below w.heap.size w w') : Pm c mb s w' := ⟨(hb.block _ h.lt).trans h.blk⟩
theorem fc_pc (a : Int) : ∀ i, i < 414 → fcell c { s with pc := a } i = if i = 406 then .int .i64 a else fcell c s i := fun i _ => by
 by_cases e : i = 406
 ·subst e; rfl
 ·rw [if_neg e]
  unfold fcell
  by_cases e1 : i < 408
  ·simp only [e1, if_true, e, if_false]
  ·simp only [e1, if_false]
theorem fc_h (n : Nat) : ∀ i, i < 414 → fcell c { s with h := n } i = if i = 405 then .int .i64 (n : Nat) else fcell c s i := fun i _ => by
 by_cases e : i = 405
 ·subst e; rfl
 ·rw [if_neg e]
  unfold fcell
  simp only [e, if_false]
theorem fc_left (n : Int) : ∀ i, i < 414 → fcell c { s with left := n } i = if i = 407 then .int .u64 n else fcell c s i := fun i _ => by
 by_cases e : i = 407
 ·subst e; rfl
 ·rw [if_neg e]
  unfold fcell
  by_cases e1 : i < 408
  ·by_cases e2 : i = 405
   ·subst e2; rfl
   ·by_cases e3 : i = 406
    ·subst e3; rfl
    ·rw [if_pos e1, if_pos e1]
     have : i < 405 := by omega
     simp only [this, if_true]
  ·simp only [e1, if_false]
theorem fc_ov (b : Bool) : ∀ i, i < 414 → fcell c { s with ov := b } i = if i = 411 then .bool b else fcell c s i := fun i _ => by
 by_cases e : i = 411
 ·subst e; rfl
 ·rw [if_neg e]
  unfold fcell
  simp only [e, if_false]
theorem fc_en (b : Int) : ∀ i, i < 414 → fcell c { s with en := b } i = if i = 412 then .int .i64 b else fcell c s i := fun i _ => by
 by_cases e : i = 412
 ·subst e; rfl
 ·rw [if_neg e]
  unfold fcell
  simp only [e, if_false]
theorem fc_fail (b : Int) : ∀ i, i < 414 → fcell c { s with fail := b } i = if i = 413 then .int .u64 b else fcell c s i := fun i hi => by
 by_cases e : i = 413
 ·subst e; rfl
 ·rw [if_neg e]
  unfold fcell
  by_cases e1 : i = 411
  ·subst e1; rfl
  ·by_cases e2 : i = 412
   ·subst e2; rfl
   ·have : i < 411 := by omega
    simp only [this, if_true]
theorem fc_paid {m : Nat} (hm : m < 3) (x : Int) : ∀ i, i < 414 → fcell c { s with paid := updI s.paid m x } i = if i = 408 + m then .int .u64 x else fcell c s i := fun i hi => by
 by_cases e : i = 408 + m
 ·subst e
  rw [if_pos rfl]
  unfold fcell
  rw [if_neg (by omega), if_neg (by omega), if_neg (by omega), if_neg (by omega), if_neg (by omega), if_pos (by omega)]
  simp [updI]
 ·rw [if_neg e]
  unfold fcell
  by_cases e1 : i < 411
  ·by_cases e2 : i < 408
   ·simp only [e2, if_true]
   ·have a1 : ¬ i < 20 := by omega
    have a2 : ¬ i < 276 := by omega
    have a3 : ¬ i = 276 := by omega
    have a4 : ¬ i < 405 := by omega
    simp only [a1, a2, a3, a4, e1, e2, if_true, if_false]
    show Value.int .u64 (updI s.paid m x (i - 408)) = _
    unfold updI
    rw [if_neg (by omega)]
  ·simp only [e1, if_false]
theorem fc_slt {m : Nat} (hm : m < 128) (x : Int) : ∀ i, i < 414 → fcell c { s with slt := updI s.slt m x } i = if i = 21 + m * 2 then .int .u64 x else fcell c s i := fun i hi => by
 by_cases e : i = 21 + m * 2
 ·subst e
  rw [if_pos rfl]
  unfold fcell
  rw [if_neg (by omega), if_pos (by omega), if_neg (by omega)]
  have : (21 + m * 2 - 20) / 2 = m := by omega
  rw [this]
  simp [updI]
 ·rw [if_neg e]
  unfold fcell
  by_cases e1 : i < 276
  ·by_cases e2 : i < 20
   ·simp only [e2, if_true]
   ·simp only [e1, e2, if_true, if_false]
    by_cases e3 : i % 2 = 0
    ·rw [if_pos e3, if_pos e3]
    ·rw [if_neg e3, if_neg e3]
     show Value.int .u64 (updI s.slt m x ((i - 20) / 2)) = _
     unfold updI
     rw [if_neg (by omega)]
  ·simp only [e1, if_false]
theorem fc_sk {m : Nat} (hm : m < 64) (x : Int) : ∀ i, i < 414 → fcell c { s with sk := updI s.sk m x } i = if i = 277 + m * 2 then .int .i64 x else fcell c s i := fun i hi => by
 by_cases e : i = 277 + m * 2
 ·subst e
  rw [if_pos rfl]
  unfold fcell
  rw [if_neg (by omega), if_neg (by omega), if_neg (by omega), if_pos (by omega), if_pos (by omega)]
  have : (277 + m * 2 - 277) / 2 = m := by omega
  rw [this]
  simp [updI]
 ·rw [if_neg e]
  unfold fcell
  by_cases e1 : i < 405
  ·by_cases e2 : i < 277
   ·have : i < 276 ∨ i = 276 := by omega
    rcases this with q | q
    ·simp only [q, if_true]
    ·subst q; rfl
   ·have a1 : ¬ i < 20 := by omega
    have a2 : ¬ i < 276 := by omega
    have a3 : ¬ i = 276 := by omega
    simp only [a1, a2, a3, e1, if_true, if_false]
    by_cases e3 : i % 2 = 1
    ·rw [if_pos e3, if_pos e3]
     show Value.int .i64 (updI s.sk m x ((i - 277) / 2)) = _
     unfold updI
     rw [if_neg (by omega)]
    ·rw [if_neg e3, if_neg e3]
  ·simp only [e1, if_false]
theorem fc_sv {m : Nat} (hm : m < 64) (x : Int) : ∀ i, i < 414 → fcell c { s with sv := updI s.sv m x } i = if i = 277 + m * 2 + 1 then .int .u64 x else fcell c s i := fun i hi => by
 by_cases e : i = 277 + m * 2 + 1
 ·subst e
  rw [if_pos rfl]
  unfold fcell
  rw [if_neg (by omega), if_neg (by omega), if_neg (by omega), if_pos (by omega), if_neg (by omega)]
  have : (277 + m * 2 + 1 - 277) / 2 = m := by omega
  rw [this]
  simp [updI]
 ·rw [if_neg e]
  unfold fcell
  by_cases e1 : i < 405
  ·by_cases e2 : i < 277
   ·have : i < 276 ∨ i = 276 := by omega
    rcases this with q | q
    ·simp only [q, if_true]
    ·subst q; rfl
   ·have a1 : ¬ i < 20 := by omega
    have a2 : ¬ i < 276 := by omega
    have a3 : ¬ i = 276 := by omega
    simp only [a1, a2, a3, e1, if_true, if_false]
    by_cases e3 : i % 2 = 1
    ·rw [if_pos e3, if_pos e3]
    ·rw [if_neg e3, if_neg e3]
     show Value.int .u64 (updI s.sv m x ((i - 277) / 2)) = _
     unfold updI
     rw [if_neg (by omega)]
  ·simp only [e1, if_false]
theorem fc_stk {m : Nat} (hm : m < 64) : fcell c s (277 + m * 2) = .int .i64 (s.sk m) ∧ fcell c s (277 + m * 2 + 1) = .int .u64 (s.sv m) := by
 unfold fcell
 refine ⟨?_, ?_⟩
 ·rw [if_neg (by omega), if_neg (by omega), if_neg (by omega), if_pos (by omega), if_pos (by omega), show (277 + m * 2 - 277) / 2 = m by omega]
 ·rw [if_neg (by omega), if_neg (by omega), if_neg (by omega), if_pos (by omega), if_neg (by omega), show (277 + m * 2 + 1 - 277) / 2 = m by omega]
theorem fc_slot {m : Nat} (hm : m < 128) : fcell c s (20 + m * 2) = .int .i64 (c.kd m) ∧ fcell c s (20 + m * 2 + 1) = .int .u64 (s.slt m) := by
 unfold fcell
 refine ⟨?_, ?_⟩
 ·rw [if_neg (by omega), if_pos (by omega), if_pos (by omega), show (20 + m * 2 - 20) / 2 = m by omega]
 ·rw [if_neg (by omega), if_pos (by omega), if_neg (by omega), show (20 + m * 2 + 1 - 20) / 2 = m by omega]
theorem fc_env {m : Nat} (hm : m < 8) : fcell c s (3 + m * 2) = .int .i64 (c.ek m) ∧ fcell c s (3 + m * 2 + 1) = .int .u64 (c.ev m) := by
 unfold fcell
 refine ⟨?_, ?_⟩
 ·rw [if_pos (by omega), if_neg (by omega), if_neg (by omega), if_neg (by omega), if_neg (by omega), if_pos (by omega), show (3 + m * 2 - 3) / 2 = m by omega]
 ·rw [if_pos (by omega), if_neg (by omega), if_neg (by omega), if_neg (by omega), if_neg (by omega), if_neg (by omega), show (3 + m * 2 + 1 - 3) / 2 = m by omega]
/-- A value is laid up. -/
theorem Pm.lay (h : Pm c mb s w) (hh : s.h < 64) (k n : Int) : Pm c mb { s with sk := updI s.sk s.h k, sv := updI s.sv s.h n } ((w.setCell ⟨mb, 277 + s.h * 2, none⟩ (.int .i64 k)).setCell ⟨mb, 277 + s.h * 2 + 1, none⟩ (.int .u64 n)) :=
 (h.set (fc_sk hh k)).set (fc_sv (s := { s with sk := updI s.sk s.h k }) hh n)
/-- A slot is filled. -/
theorem Pm.slot (h : Pm c mb s w) {m : Nat} (hm : m < 128) (n : Int) : Pm c mb { s with slt := updI s.slt m n } ((w.setCell ⟨mb, 20 + m * 2, none⟩ (.int .i64 (c.kd m))).setCell ⟨mb, 20 + m * 2 + 1, none⟩ (.int .u64 n)) := by
 have h1 : Pm c mb s (w.setCell ⟨mb, 20 + m * 2, none⟩ (.int .i64 (c.kd m))) := h.set (s' := s) (fun i _ => by
  by_cases e : i = 20 + m * 2
  ·subst e; rw [if_pos rfl]; exact (fc_slot hm).1
  ·rw [if_neg e])
 exact h1.set (fun i hi => by rw [fc_slt hm n i hi, show 21 + m * 2 = 20 + m * 2 + 1 by omega])
end
end Go.Proofs.YtggpaljilpbmhaaGreatDoor
