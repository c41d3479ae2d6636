import Derived.Test.YtggpaljilpbmhaaGreatDoorZ06
import Derived.Test.YtggpaljilpbmhaaGreatDoorZ24
import Derived.Defers
import Derived.Recover
import Derived.Deep.DeepCutAuto
import Derived.BigQuiet
namespace Go.Proofs.YtggpaljilpbmhaaGreatDoor
open Go.RowKit
theorem lsA {α : Type} (l : List α) (i : Nat) (a : α) : l.toArray.setIfInBounds i a = (l.set i a).toArray := List.setIfInBounds_toArray ..
theorem lsB {α : Type} {x : α} {xs : List α} {a : α} : (x :: xs).set 0 a = a :: xs := List.set_cons_zero ..
theorem lsC {α : Type} {x : α} {xs : List α} {n : Nat} {a : α} : (x :: xs).set (n + 1) a = x :: xs.set n a := List.set_cons_succ ..

theorem below_alloc1 (W : World) (o : Obj) : Below W.heap.size W (W.alloc o) := (Below.refl _ W).alloc (Nat.le_refl _) _
/-- The table of forms: what the Arg is, what is taken, what is laid up. -/
def formT : List (Nat × List Nat × List Nat) := [(0, [], []), (0, [], []), (1, [], [110]), (0, [], [116]), (0, [], [116]), (2, [], [105]), (3, [], [115]), (3, [115], []), (0, [116], [116]), (0, [110, 110], [116]), (0, [110, 110], [116]), (0, [110, 110], [116]), (0, [110, 110], [116]), (0, [110, 110], [116]), (0, [110, 110], [116]), (0, [116, 116], [116]), (0, [116, 116], [116]), (0, [110, 110], [110]), (0, [110, 110], [110]), (0, [110, 110], [110]), (0, [110, 110], [110]), (0, [110, 110], [110]), (0, [110, 110], [110]), (0, [110, 110], [110]), (0, [110, 110, 110], [110]), (4, [], []), (4, [116], []), (4, [116], []), (4, [116], []), (0, [110, 110], []), (5, [116], []), (5, [], []), (0, [], [])]
def fArg (o : Nat) : Nat := (formT.getD o (0, [], [])).1
def fTakes (o : Nat) : List Nat := (formT.getD o (0, [], [])).2.1
def fLays (o : Nat) : List Nat := (formT.getD o (0, [], [])).2.2
/-- Letters as a text. -/
def txt (l : List Nat) : ByteArray := ⟨(l.map (fun x => UInt8.ofNat x)).toArray⟩
/-- The tables as they lie. -/
structure Tab (w : World) : Prop where
 a : ∀ o, o ≤ 32 → w.cell? ⟨0, o * 3, none⟩ = some (.int .i64 (fArg o : Nat))
 t : ∀ o, o ≤ 32 → w.cell? ⟨0, o * 3 + 1, none⟩ = some (.string (txt (fTakes o)))
 l : ∀ o, o ≤ 32 → w.cell? ⟨0, o * 3 + 2, none⟩ = some (.string (txt (fLays o)))
 i : ∀ o, o < 8 → w.cell? ⟨2, o * 2 + 1, none⟩ = some (.int .i64 (if o = 7 then 1 else 0))
 z : 10 < w.heap.size
theorem Tab.below {w w' : World} {k : Nat} (h : Tab w) (hb : Below k w w') (hk : 10 < k) : Tab w' :=
 ⟨fun o ho => (hb.cell (p := ⟨0, _, none⟩) (by show 0 < k; omega)).trans (h.a o ho), fun o ho => (hb.cell (p := ⟨0, _, none⟩) (by show 0 < k; omega)).trans (h.t o ho), fun o ho => (hb.cell (p := ⟨0, _, none⟩) (by show 0 < k; omega)).trans (h.l o ho), fun o ho => (hb.cell (p := ⟨2, _, none⟩) (by show 2 < k; omega)).trans (h.i o ho), Nat.lt_of_lt_of_le h.z hb.size⟩
/-- A program, as it is meant. -/
structure Pv where
 (nc ns n : Nat) (C S : Nat → Int) (en : Nat → Int) (op arg : Nat → Int)
/-- A program as it lies: its lists. -/
structure Pg where
 (ca sa ia : Option Addr) (cc sc ic : Nat) (cb co sb so ib io : Nat)
def Pg.cs (g : Pg) (p : Pv) : List Value := [.slice g.ca p.nc g.cc, .slice g.sa p.ns g.sc, .int .i64 (p.en 0), .int .i64 (p.en 1), .int .i64 (p.en 2), .int .i64 (p.en 3), .int .i64 (p.en 4), .int .i64 (p.en 5), .slice g.ia p.n g.ic]
structure Pg.Ok (g : Pg) (p : Pv) (lim : Nat) (w : World) : Prop where
 hc : 0 < p.nc → g.ca = some ⟨g.cb, g.co, none⟩ ∧ g.cb < lim
 hs : 0 < p.ns → g.sa = some ⟨g.sb, g.so, none⟩ ∧ g.sb < lim
 hi : 0 < p.n → g.ia = some ⟨g.ib, g.io, none⟩ ∧ g.ib < lim
 vc : ∀ j, j < p.nc → w.cell? ⟨g.cb, g.co + j, none⟩ = some (.int .u64 (p.C j))
 vs : ∀ j, j < p.ns → w.cell? ⟨g.sb, g.so + j, none⟩ = some (.int .i64 (p.S j))
 vo : ∀ j, j < p.n → w.cell? ⟨g.ib, g.io + j * 2, none⟩ = some (.int .i64 (p.op j))
 va : ∀ j, j < p.n → w.cell? ⟨g.ib, g.io + j * 2 + 1, none⟩ = some (.int .i64 (p.arg j))
 lc : p.nc ≤ 140737488355328
 ls : p.ns ≤ 140737488355328
 li : p.n ≤ 140737488355328
theorem Pg.Ok.kept {g : Pg} {p : Pv} {lim k : Nat} {w w' : World} (h : g.Ok p lim w) (hb : Below k w w') (hk : lim ≤ k) : g.Ok p lim w' :=
 ⟨h.hc, h.hs, h.hi, fun j hj => (hb.cell (p := ⟨g.cb, _, none⟩) (by have := (h.hc (by omega)).2; show g.cb < k; omega)).trans (h.vc j hj), fun j hj => (hb.cell (p := ⟨g.sb, _, none⟩) (by have := (h.hs (by omega)).2; show g.sb < k; omega)).trans (h.vs j hj), fun j hj => (hb.cell (p := ⟨g.ib, _, none⟩) (by have := (h.hi (by omega)).2; show g.ib < k; omega)).trans (h.vo j hj), fun j hj => (hb.cell (p := ⟨g.ib, _, none⟩) (by have := (h.hi (by omega)).2; show g.ib < k; omega)).trans (h.va j hj), h.lc, h.ls, h.li⟩
theorem Pg.Ok.wide {g : Pg} {p : Pv} {lim lim' : Nat} {w : World} (h : g.Ok p lim w) (hl : lim ≤ lim') : g.Ok p lim' w :=
 ⟨fun e => ⟨(h.hc e).1, Nat.lt_of_lt_of_le (h.hc e).2 hl⟩, fun e => ⟨(h.hs e).1, Nat.lt_of_lt_of_le (h.hs e).2 hl⟩, fun e => ⟨(h.hi e).1, Nat.lt_of_lt_of_le (h.hi e).2 hl⟩, h.vc, h.vs, h.vo, h.va, h.lc, h.ls, h.li⟩
/-- What is known of the places: the kinds, the lowest first; true: a truth. -/
abbrev Kn := Nat → Option (List Bool)
def ltr (b : Bool) : Nat := if b then 116 else 110
def kin (o : Option (List Bool)) : List Bool := o.getD []
def ktx (l : List Bool) : ByteArray := txt (l.map ltr)
/-- The walk of the program as it lies: its block q, the shapes in block hb. -/
structure WK (lim : Nat) (W : World) (q hb : Nat) (g : Pg) (p : Pv) (k : Kn) : Prop where
 blk : W.heap[q]? = some (.cells (g.cs p ++ [Value.slice (some ⟨hb, 0, none⟩) p.n p.n]).toArray 128 (0, 0))
 row : ∃ cs, W.heap[hb]? = some (.cells cs 78 (0, 0)) ∧ ∀ j, j < p.n → cs[j * 2]? = some (.bool (k j).isSome) ∧ cs[j * 2 + 1]? = some (.string (ktx (kin (k j))))
 ok : g.Ok p lim W
 lq : lim ≤ q
 lh : lim ≤ hb
 tab : Tab W
 l2 : 10 < lim
/-- A fault of this layer as it lies. -/
def Ft (lim : Nat) (w : World) (v : Value) (at_ why : Int) : Prop := Chain lim w [⟨⟨#[99, 111, 100, 101]⟩, at_⟩] v why
set_option maxRecDepth 10000 in
theorem refusalC (at_ why : Int) (w : World) :
  Calls Tryz.prog 30 #[.int .i64 at_, .iface 76 (.int .i64 why)] w fun e w' => e = .returned (.pointer (some ⟨w.heap.size, 0, none⟩)) ∧ w' = w.alloc (.cells #[.string ⟨#[99, 111, 100, 101]⟩, .int .i64 at_, .iface 76 (.int .i64 why)] 130) := by
 go_enter Tryz.func30, Tryz.ntmps30
 go_wp2
 go_ret
 exact ⟨rfl, rfl⟩
/-- It gave up. -/
def Gu (w : World) (at_ why : Int) (e : Ending) (w' : World) : Prop := ∃ g, e = .panicked [{ v := .iface 74 (.pointer (some ⟨g, 0, none⟩)), recovered := false }] ∧ Hid (Ft w'.heap.size w' (.iface 74 (.pointer (some ⟨g, 0, none⟩))) at_ why ∧ Below w.heap.size w w')
theorem ft_new {w w' : World} {at_ why : Int} (h : w' = w.alloc (.cells #[.string ⟨#[99, 111, 100, 101]⟩, .int .i64 at_, .iface 76 (.int .i64 why)] 130)) : Ft w'.heap.size w' (.iface 74 (.pointer (some ⟨w.heap.size, 0, none⟩))) at_ why ∧ Below w.heap.size w w' := by
 subst h
 refine ⟨⟨w.heap.size, .iface 76 (.int .i64 why), rfl, by simp, ?_, ?_, ?_, rfl⟩, below_alloc1 w _⟩
 ·exact (World.cell?_alloc_new w _ _ 0).trans rfl
 ·exact (World.cell?_alloc_new w _ _ 1).trans rfl
 ·exact (World.cell?_alloc_new w _ _ 2).trans rfl
set_option maxRecDepth 10000 in
theorem giveUp_any (at_ why : Int) (w : World) : Calls Tryz.prog 118 #[.int .i64 at_, .int .i64 why] w (Gu w at_ why) := by
 unfold Gu
 go_enter Tryz.func118, Tryz.ntmps118
 go_wp2_with fail
 refine (refusalC at_ why w).mono ?_
 rintro e w1 ⟨rfl, hw⟩
 have HF := hide (ft_new hw)
 clear hw
 go_wp2
 exact ⟨rfl, _, rfl, HF⟩
/-- A place in a list of so many. -/
def isPl (a : Int) (n : Nat) : Bool := decide (0 ≤ a) && decide (a < (n : Int))
set_option maxRecDepth 10000 in
theorem isPlace_any (a : Int) (n : Nat) (w : World) : Calls Tryz.prog 29 #[.int .i64 a, .int .i64 (n : Nat)] w fun e w' => e = .returned (.bool (isPl a n)) ∧ w' = w := by
 unfold isPl
 by_cases h1 : 0 ≤ a
 ·by_cases h2 : a < (n : Int)
  ·have e1 : decide (0 ≤ a) = true := decide_eq_true h1
   have e2 : decide (a < (n : Int)) = true := decide_eq_true h2
   rw [e1, e2]
   go_enter Tryz.func29, Tryz.ntmps29
   go_wp2
   go_ret
   exact ⟨rfl, rfl⟩
  ·have e1 : decide (0 ≤ a) = true := decide_eq_true h1
   have e2 : decide (a < (n : Int)) = false := decide_eq_false h2
   rw [e1, e2]
   go_enter Tryz.func29, Tryz.ntmps29
   go_wp2
   go_ret
   exact ⟨rfl, rfl⟩
 ·have e1 : decide (0 ≤ a) = false := decide_eq_false h1
  rw [e1]
  go_enter Tryz.func29, Tryz.ntmps29
  go_wp2
  go_ret
  exact ⟨rfl, rfl⟩
def isO (a : Int) : Bool := decide (1 ≤ a) && decide (a ≤ 32)
set_option maxRecDepth 10000 in
theorem isOp_any (a : Int) (w : World) : Calls Tryz.prog 119 #[.int .i64 a] w fun e w' => e = .returned (.bool (isO a)) ∧ w' = w := by
 unfold isO
 by_cases h1 : 1 ≤ a
 ·by_cases h2 : a ≤ 32
  ·have e1 : decide (1 ≤ a) = true := decide_eq_true h1
   have e2 : decide (a ≤ 32) = true := decide_eq_true h2
   rw [e1, e2]
   go_enter Tryz.func119, Tryz.ntmps119
   go_wp2
   go_ret
   exact ⟨rfl, rfl⟩
  ·have e1 : decide (1 ≤ a) = true := decide_eq_true h1
   have e2 : decide (a ≤ 32) = false := decide_eq_false h2
   rw [e1, e2]
   go_enter Tryz.func119, Tryz.ntmps119
   go_wp2
   go_ret
   exact ⟨rfl, rfl⟩
 ·have e1 : decide (1 ≤ a) = false := decide_eq_false h1
  rw [e1]
  go_enter Tryz.func119, Tryz.ntmps119
  go_wp2
  go_ret
  exact ⟨rfl, rfl⟩
theorem WK.cells {lim : Nat} {W : World} {q hb : Nat} {g : Pg} {p : Pv} {k : Kn} (h : WK lim W q hb g p k) : W.cell? ⟨q, 0, none⟩ = some (.slice g.ca p.nc g.cc) ∧ W.cell? ⟨q, 1, none⟩ = some (.slice g.sa p.ns g.sc) ∧ W.cell? ⟨q, 8, none⟩ = some (.slice g.ia p.n g.ic) ∧ W.cell? ⟨q, 9, none⟩ = some (.slice (some ⟨hb, 0, none⟩) p.n p.n) ∧ q < W.heap.size :=
 ⟨block_cell h.blk 0, block_cell h.blk 1, block_cell h.blk 8, block_cell h.blk 9, block_lt h.blk⟩
end Go.Proofs.YtggpaljilpbmhaaGreatDoor
namespace Go.Proofs.YtggpaljilpbmhaaGreatDoor
open Go.RowKit

/-- The walk ahead of its going through. -/
structure WC (lim : Nat) (W : World) (q : Nat) (g : Pg) (p : Pv) : Prop where
 blk : ∃ x, W.heap[q]? = some (.cells (g.cs p ++ [x]).toArray 128 (0, 0))
 ok : g.Ok p lim W
 lq : lim ≤ q
 tab : Tab W
 l2 : 10 < lim
 le : lim ≤ W.heap.size
theorem WC.kept {lim : Nat} {W W' : World} {q : Nat} {g : Pg} {p : Pv} (h : WC lim W q g p) (hb : Below W.heap.size W W') : WC lim W' q g p := by
 obtain ⟨x, hx⟩ := h.blk
 exact ⟨⟨x, (hb.block _ (block_lt hx)).trans hx⟩, h.ok.kept hb h.le, h.lq, h.tab.below hb (Nat.lt_of_lt_of_le h.l2 h.le), h.l2, Nat.le_trans h.le hb.size⟩
theorem WC.cells {lim : Nat} {W : World} {q : Nat} {g : Pg} {p : Pv} (h : WC lim W q g p) : W.cell? ⟨q, 0, none⟩ = some (.slice g.ca p.nc g.cc) ∧ W.cell? ⟨q, 1, none⟩ = some (.slice g.sa p.ns g.sc) ∧ W.cell? ⟨q, 8, none⟩ = some (.slice g.ia p.n g.ic) ∧ q < W.heap.size := by
 obtain ⟨x, hx⟩ := h.blk
 exact ⟨block_cell hx 0, block_cell hx 1, block_cell hx 8, block_lt hx⟩
theorem WC.ents {lim : Nat} {W : World} {q : Nat} {g : Pg} {p : Pv} (h : WC lim W q g p) : W.cell? ⟨q, 2, none⟩ = some (.int .i64 (p.en 0)) ∧ W.cell? ⟨q, 3, none⟩ = some (.int .i64 (p.en 1)) ∧ W.cell? ⟨q, 4, none⟩ = some (.int .i64 (p.en 2)) ∧ W.cell? ⟨q, 5, none⟩ = some (.int .i64 (p.en 3)) ∧ W.cell? ⟨q, 6, none⟩ = some (.int .i64 (p.en 4)) ∧ W.cell? ⟨q, 7, none⟩ = some (.int .i64 (p.en 5)) := by
 obtain ⟨x, hx⟩ := h.blk
 exact ⟨block_cell hx 2, block_cell hx 3, block_cell hx 4, block_cell hx 5, block_cell hx 6, block_cell hx 7⟩
/-- What becomes of a check. -/
def Ck (w : World) (r : Option (Int × Int)) (e : Ending) (w' : World) : Prop := match r with
 | none => e = .returned (.tuple #[]) ∧ Hid (Below w.heap.size w w')
 | some (a, y) => Gu w a y e w'
def sizeF (p : Pv) : Option (Int × Int) := if 256 < p.nc then some (0, 80) else if 128 < p.ns then some (1, 80) else if 1024 < p.n then some (2, 80) else none
set_option maxRecDepth 10000 in
set_option maxHeartbeats 800000 in
theorem checkSizesC {lim : Nat} {W : World} {q : Nat} {g : Pg} {p : Pv} (h : WC lim W q g p) : Calls Tryz.prog 61 #[.pointer (some ⟨q, 0, none⟩)] W (Ck W (sizeF p)) := by
 obtain ⟨c0, c1, c8, ql⟩ := h.cells
 have hlc := h.ok.lc
 have hls := h.ok.ls
 have hli := h.ok.li
 clear h
 unfold sizeF
 generalize p.nc = nc at *
 generalize p.ns = ns at *
 generalize p.n = n at *
 by_cases h1 : 256 < nc
 ·rw [if_pos h1]
  unfold Ck Gu
  go_enter Tryz.func61, Tryz.ntmps61
  go_wp2_with fail
  refine (giveUp_any _ _ _).mono ?_
  rintro e w1 ⟨g, rfl, G⟩
  go_wp2
  exact ⟨rfl, g, rfl, G⟩
 ·rw [if_neg h1]
  by_cases h2 : 128 < ns
  ·rw [if_pos h2]
   unfold Ck Gu
   go_enter Tryz.func61, Tryz.ntmps61
   go_wp2_with fail
   refine (giveUp_any _ _ _).mono ?_
   rintro e w1 ⟨g, rfl, G⟩
   go_wp2
   exact ⟨rfl, g, rfl, G⟩
  ·rw [if_neg h2]
   by_cases h3 : 1024 < n
   ·rw [if_pos h3]
    unfold Ck Gu
    go_enter Tryz.func61, Tryz.ntmps61
    go_wp2_with fail
    refine (giveUp_any _ _ _).mono ?_
    rintro e w1 ⟨g, rfl, G⟩
    go_wp2
    exact ⟨rfl, g, rfl, G⟩
   ·rw [if_neg h3]
    unfold Ck
    go_enter Tryz.func61, Tryz.ntmps61
    go_wp2
    go_end0
    exact ⟨rfl, Below.refl _ _⟩
/-- The first of so many places that is bad. -/
def firstBad (bad : Nat → Option (Int × Int)) : Nat → Option (Int × Int)
 | 0 => none
 | j + 1 => (firstBad bad j).or (bad j)
theorem firstBad_stays {bad : Nat → Option (Int × Int)} {j n : Nat} {r : Int × Int} (hj : j ≤ n) (h : firstBad bad j = some r) : firstBad bad n = some r := by
 induction n with
 | zero =>
  obtain rfl : j = 0 := by omega
  exact h
 | succ n ih =>
  by_cases e : j = n + 1
  ·subst e; exact h
  ·unfold firstBad; rw [ih (by omega)]; rfl
theorem firstBad_hit {bad : Nat → Option (Int × Int)} {j n : Nat} {r : Int × Int} (hj : j < n) (h0 : firstBad bad j = none) (h : bad j = some r) : firstBad bad n = some r :=
 firstBad_stays (j := j + 1) hj (by unfold firstBad; rw [h0, h]; rfl)
theorem firstBad_next {bad : Nat → Option (Int × Int)} {j : Nat} (h0 : firstBad bad j = none) (h : bad j = none) : firstBad bad (j + 1) = none := by unfold firstBad; rw [h0, h]; rfl
def slotB (p : Pv) (j : Nat) : Option (Int × Int) := if p.S j ≠ 0 ∧ p.S j ≠ 1 then some ((j : Int), 81) else none
def slotF (p : Pv) : Option (Int × Int) := firstBad (slotB p) p.ns
set_option maxRecDepth 10000 in
set_option maxHeartbeats 800000 in
theorem checkSlotsC {lim : Nat} {W : World} {q : Nat} {g : Pg} {p : Pv} (h : WC lim W q g p) : Calls Tryz.prog 62 #[.pointer (some ⟨q, 0, none⟩)] W (Ck W (slotF p)) := by
 obtain ⟨c0, c1, c8, ql⟩ := h.cells
 have hls := h.ok.ls
 have HA := hide h.ok.hs
 have HV := hide h.ok.vs
 have HL := hide h.le
 obtain ⟨r, hr⟩ : ∃ r, slotF p = r := ⟨_, rfl⟩
 rw [hr]
 have HR := hide hr
 clear h c0 c8 hr
 go_enter Tryz.func62, Tryz.ntmps62
 go_wp2
 go_loop [10] (fun i => ∃ j : Nat, j ≤ p.ns ∧ i = .int .i64 (j : Nat) ∧ Hid (firstBad (slotB p) j = none)) (fun i => p.ns - (intOf i).toNat)
 case atStart => exact ⟨0, by omega, rfl, rfl⟩
 case round =>
  obtain ⟨j, hj, rfl, HJ⟩ := hrel
  by_cases hlt : j < p.ns
  ·have hv := HV.out j hlt
   obtain ⟨hsa, hsb⟩ := HA.out (by omega)
   have hbl : g.sb < W.heap.size := Nat.lt_of_lt_of_le hsb HL.out
   have HHit : Hid (∀ x y, slotB p j = some (x, y) → r = some (x, y)) := fun x y hb => HR.out.symm.trans (firstBad_hit hlt HJ.out hb)
   have HNx : Hid (slotB p j = none → firstBad (slotB p) (j + 1) = none) := fun hb => firstBad_next HJ.out hb
   unfold slotB at HHit HNx
   rw [hsa] at *
   generalize p.S j = s at *
   by_cases h0 : s = 0
   ·subst h0
    go_wp2
    go_round
    case rel => exact ⟨j + 1, by omega, by go_num, HNx.out (by simp)⟩
    case measure => simp [intOf]; omega
   ·by_cases h1 : s = 1
    ·subst h1
     go_wp2
     go_round
     case rel => exact ⟨j + 1, by omega, by go_num, HNx.out (by simp)⟩
     case measure => simp [intOf]; omega
    ·have hr := HHit.out j 81 (by rw [if_pos ⟨h0, h1⟩])
     have e0 : (s != 0) = true := by simpa using h0
     have e1 : (s != 1) = true := by simpa using h1
     subst hr
     go_wp2_with fail
     refine (giveUp_any _ _ _).mono ?_
     rintro e w1 ⟨g, rfl, G⟩
     go_wp2
     exact ⟨rfl, g, rfl, G⟩
  ·obtain rfl : j = p.ns := by omega
   have hr : r = none := HR.out.symm.trans HJ.out
   subst hr
   go_wp2
   go_end0
   exact ⟨rfl, Below.refl _ _⟩
end Go.Proofs.YtggpaljilpbmhaaGreatDoor
namespace Go.Proofs.YtggpaljilpbmhaaGreatDoor
open Go.RowKit

theorem idx6_0 (a0 a1 a2 a3 a4 a5 : Int) (w : World) : (Instr.index 24 (.agg #[.int .i64 a0, .int .i64 a1, .int .i64 a2, .int .i64 a3, .int .i64 a4, .int .i64 a5]) (.int .i64 0)).run Tryz.prog w = .ok (.int .i64 a0) w := by kernel_rfl
theorem idx6_1 (a0 a1 a2 a3 a4 a5 : Int) (w : World) : (Instr.index 24 (.agg #[.int .i64 a0, .int .i64 a1, .int .i64 a2, .int .i64 a3, .int .i64 a4, .int .i64 a5]) (.int .i64 1)).run Tryz.prog w = .ok (.int .i64 a1) w := by kernel_rfl
theorem idx6_2 (a0 a1 a2 a3 a4 a5 : Int) (w : World) : (Instr.index 24 (.agg #[.int .i64 a0, .int .i64 a1, .int .i64 a2, .int .i64 a3, .int .i64 a4, .int .i64 a5]) (.int .i64 2)).run Tryz.prog w = .ok (.int .i64 a2) w := by kernel_rfl
theorem idx6_3 (a0 a1 a2 a3 a4 a5 : Int) (w : World) : (Instr.index 24 (.agg #[.int .i64 a0, .int .i64 a1, .int .i64 a2, .int .i64 a3, .int .i64 a4, .int .i64 a5]) (.int .i64 3)).run Tryz.prog w = .ok (.int .i64 a3) w := by kernel_rfl
theorem idx6_4 (a0 a1 a2 a3 a4 a5 : Int) (w : World) : (Instr.index 24 (.agg #[.int .i64 a0, .int .i64 a1, .int .i64 a2, .int .i64 a3, .int .i64 a4, .int .i64 a5]) (.int .i64 4)).run Tryz.prog w = .ok (.int .i64 a4) w := by kernel_rfl
theorem idx6_5 (a0 a1 a2 a3 a4 a5 : Int) (w : World) : (Instr.index 24 (.agg #[.int .i64 a0, .int .i64 a1, .int .i64 a2, .int .i64 a3, .int .i64 a4, .int .i64 a5]) (.int .i64 5)).run Tryz.prog w = .ok (.int .i64 a5) w := by kernel_rfl
def entB (p : Pv) (j : Nat) : Option (Int × Int) := if p.en j ≠ -1 ∧ isPl (p.en j) p.n = false then some ((j : Int), 82) else none
def entF (p : Pv) : Option (Int × Int) := firstBad (entB p) 6
set_option maxRecDepth 10000 in
set_option maxHeartbeats 1600000 in
theorem checkEntriesC {lim : Nat} {W : World} {q : Nat} {g : Pg} {p : Pv} (h : WC lim W q g p) : Calls Tryz.prog 63 #[.pointer (some ⟨q, 0, none⟩)] W (Ck W (entF p)) := by
 obtain ⟨c0, c1, c8, ql⟩ := h.cells
 obtain ⟨e0, e1, e2, e3, e4, e5⟩ := h.ents
 obtain ⟨r, hr⟩ : ∃ r, entF p = r := ⟨_, rfl⟩
 rw [hr]
 have HR := hide hr
 clear h c0 c1 hr
 go_enter Tryz.func63, Tryz.ntmps63
 go_wp2
 go_loop [9] (fun i => ∃ j : Nat, j ≤ 6 ∧ i = .int .i64 (j : Nat) ∧ Hid (firstBad (entB p) j = none)) (fun i => 6 - (intOf i).toNat)
 case atStart => exact ⟨0, by omega, rfl, rfl⟩
 case round =>
  obtain ⟨j, hj, rfl, HJ⟩ := hrel
  by_cases hlt : j < 6
  ·have HHit : Hid (∀ x y, entB p j = some (x, y) → r = some (x, y)) := fun x y hb => HR.out.symm.trans (firstBad_hit hlt HJ.out hb)
   have HNx : Hid (entB p j = none → firstBad (entB p) (j + 1) = none) := fun hb => firstBad_next HJ.out hb
   unfold entB at HHit HNx
   clear HJ HR
   have h6 : j = 0 ∨ j = 1 ∨ j = 2 ∨ j = 3 ∨ j = 4 ∨ j = 5 := by omega
   rcases h6 with rfl | rfl | rfl | rfl | rfl | rfl
   ·have hix := idx6_0 (p.en 0) (p.en 1) (p.en 2) (p.en 3) (p.en 4) (p.en 5)
    generalize p.en 0 = s at *
    have HIP := hide (isPlace_any s p.n W)
    by_cases h0 : s = -1
    ·have e7 : (s != -1) = false := by subst h0; rfl
     have H0 := hide h0
     clear h0
     go_wp2
     go_round
     case rel => exact ⟨1, by omega, by go_num, HNx.out (by rw [if_neg (fun h => h.1 H0.out)])⟩
     case measure => simp [intOf]
    ·have e7 : (s != -1) = true := by simpa using h0
     go_wp2_with fail
     refine HIP.out.mono ?_
     rintro e w1 ⟨rfl, rfl⟩
     cases hp : isPl s p.n
     ·have hr := HHit.out _ _ (if_pos ⟨h0, hp⟩)
      subst hr
      go_wp2_with fail
      refine (giveUp_any _ _ _).mono ?_
      rintro e w2 ⟨g, rfl, G⟩
      go_wp2
      exact ⟨rfl, g, rfl, G⟩
     ·go_wp2
      go_round
      case rel => exact ⟨1, by omega, by go_num, HNx.out (by rw [if_neg (fun h => by have := h.2; rw [hp] at this; cases this)])⟩
      case measure => simp [intOf]
   ·have hix := idx6_1 (p.en 0) (p.en 1) (p.en 2) (p.en 3) (p.en 4) (p.en 5)
    generalize p.en 1 = s at *
    have HIP := hide (isPlace_any s p.n W)
    by_cases h0 : s = -1
    ·have e7 : (s != -1) = false := by subst h0; rfl
     have H0 := hide h0
     clear h0
     go_wp2
     go_round
     case rel => exact ⟨2, by omega, by go_num, HNx.out (by rw [if_neg (fun h => h.1 H0.out)])⟩
     case measure => simp [intOf]
    ·have e7 : (s != -1) = true := by simpa using h0
     go_wp2_with fail
     refine HIP.out.mono ?_
     rintro e w1 ⟨rfl, rfl⟩
     cases hp : isPl s p.n
     ·have hr := HHit.out _ _ (if_pos ⟨h0, hp⟩)
      subst hr
      go_wp2_with fail
      refine (giveUp_any _ _ _).mono ?_
      rintro e w2 ⟨g, rfl, G⟩
      go_wp2
      exact ⟨rfl, g, rfl, G⟩
     ·go_wp2
      go_round
      case rel => exact ⟨2, by omega, by go_num, HNx.out (by rw [if_neg (fun h => by have := h.2; rw [hp] at this; cases this)])⟩
      case measure => simp [intOf]
   ·have hix := idx6_2 (p.en 0) (p.en 1) (p.en 2) (p.en 3) (p.en 4) (p.en 5)
    generalize p.en 2 = s at *
    have HIP := hide (isPlace_any s p.n W)
    by_cases h0 : s = -1
    ·have e7 : (s != -1) = false := by subst h0; rfl
     have H0 := hide h0
     clear h0
     go_wp2
     go_round
     case rel => exact ⟨3, by omega, by go_num, HNx.out (by rw [if_neg (fun h => h.1 H0.out)])⟩
     case measure => simp [intOf]
    ·have e7 : (s != -1) = true := by simpa using h0
     go_wp2_with fail
     refine HIP.out.mono ?_
     rintro e w1 ⟨rfl, rfl⟩
     cases hp : isPl s p.n
     ·have hr := HHit.out _ _ (if_pos ⟨h0, hp⟩)
      subst hr
      go_wp2_with fail
      refine (giveUp_any _ _ _).mono ?_
      rintro e w2 ⟨g, rfl, G⟩
      go_wp2
      exact ⟨rfl, g, rfl, G⟩
     ·go_wp2
      go_round
      case rel => exact ⟨3, by omega, by go_num, HNx.out (by rw [if_neg (fun h => by have := h.2; rw [hp] at this; cases this)])⟩
      case measure => simp [intOf]
   ·have hix := idx6_3 (p.en 0) (p.en 1) (p.en 2) (p.en 3) (p.en 4) (p.en 5)
    generalize p.en 3 = s at *
    have HIP := hide (isPlace_any s p.n W)
    by_cases h0 : s = -1
    ·have e7 : (s != -1) = false := by subst h0; rfl
     have H0 := hide h0
     clear h0
     go_wp2
     go_round
     case rel => exact ⟨4, by omega, by go_num, HNx.out (by rw [if_neg (fun h => h.1 H0.out)])⟩
     case measure => simp [intOf]
    ·have e7 : (s != -1) = true := by simpa using h0
     go_wp2_with fail
     refine HIP.out.mono ?_
     rintro e w1 ⟨rfl, rfl⟩
     cases hp : isPl s p.n
     ·have hr := HHit.out _ _ (if_pos ⟨h0, hp⟩)
      subst hr
      go_wp2_with fail
      refine (giveUp_any _ _ _).mono ?_
      rintro e w2 ⟨g, rfl, G⟩
      go_wp2
      exact ⟨rfl, g, rfl, G⟩
     ·go_wp2
      go_round
      case rel => exact ⟨4, by omega, by go_num, HNx.out (by rw [if_neg (fun h => by have := h.2; rw [hp] at this; cases this)])⟩
      case measure => simp [intOf]
   ·have hix := idx6_4 (p.en 0) (p.en 1) (p.en 2) (p.en 3) (p.en 4) (p.en 5)
    generalize p.en 4 = s at *
    have HIP := hide (isPlace_any s p.n W)
    by_cases h0 : s = -1
    ·have e7 : (s != -1) = false := by subst h0; rfl
     have H0 := hide h0
     clear h0
     go_wp2
     go_round
     case rel => exact ⟨5, by omega, by go_num, HNx.out (by rw [if_neg (fun h => h.1 H0.out)])⟩
     case measure => simp [intOf]
    ·have e7 : (s != -1) = true := by simpa using h0
     go_wp2_with fail
     refine HIP.out.mono ?_
     rintro e w1 ⟨rfl, rfl⟩
     cases hp : isPl s p.n
     ·have hr := HHit.out _ _ (if_pos ⟨h0, hp⟩)
      subst hr
      go_wp2_with fail
      refine (giveUp_any _ _ _).mono ?_
      rintro e w2 ⟨g, rfl, G⟩
      go_wp2
      exact ⟨rfl, g, rfl, G⟩
     ·go_wp2
      go_round
      case rel => exact ⟨5, by omega, by go_num, HNx.out (by rw [if_neg (fun h => by have := h.2; rw [hp] at this; cases this)])⟩
      case measure => simp [intOf]
   ·have hix := idx6_5 (p.en 0) (p.en 1) (p.en 2) (p.en 3) (p.en 4) (p.en 5)
    generalize p.en 5 = s at *
    have HIP := hide (isPlace_any s p.n W)
    by_cases h0 : s = -1
    ·have e7 : (s != -1) = false := by subst h0; rfl
     have H0 := hide h0
     clear h0
     go_wp2
     go_round
     case rel => exact ⟨6, by omega, by go_num, HNx.out (by rw [if_neg (fun h => h.1 H0.out)])⟩
     case measure => simp [intOf]
    ·have e7 : (s != -1) = true := by simpa using h0
     go_wp2_with fail
     refine HIP.out.mono ?_
     rintro e w1 ⟨rfl, rfl⟩
     cases hp : isPl s p.n
     ·have hr := HHit.out _ _ (if_pos ⟨h0, hp⟩)
      subst hr
      go_wp2_with fail
      refine (giveUp_any _ _ _).mono ?_
      rintro e w2 ⟨g, rfl, G⟩
      go_wp2
      exact ⟨rfl, g, rfl, G⟩
     ·go_wp2
      go_round
      case rel => exact ⟨6, by omega, by go_num, HNx.out (by rw [if_neg (fun h => by have := h.2; rw [hp] at this; cases this)])⟩
      case measure => simp [intOf]
  ·obtain rfl : j = 6 := by omega
   have hr : r = none := HR.out.symm.trans HJ.out
   subst hr
   go_wp2
   go_end0
   exact ⟨rfl, Below.refl _ _⟩
/-- May an instruction have its Arg? -/
def argF (p : Pv) (o : Nat) (a : Int) : Bool :=
 if fArg o = 1 then isPl a p.nc else if fArg o = 2 then isPl a 8 else if fArg o = 3 then isPl a p.ns else if fArg o = 4 then isPl a p.n else if fArg o = 5 then decide (1 ≤ a) && decide (a ≤ 999) else decide (a = 0)
theorem isPlace_q (a : Int) (n : Nat) (w : World) : Calls Tryz.prog 29 #[.int .i64 a, .int .i64 (n : Nat)] w fun e w' => e = .returned (.bool (isPl a n)) ∧ ∃ q, w' = w.drewN q := (isPlace_any a n w).mono (fun _ _ h => ⟨h.1, 0, by rw [h.2]; rfl⟩)
theorem fArg_le (o : Nat) (h : o ≤ 32) : fArg o = 0 ∨ fArg o = 1 ∨ fArg o = 2 ∨ fArg o = 3 ∨ fArg o = 4 ∨ fArg o = 5 := by
 have : ∀ o, o ≤ 32 → fArg o = 0 ∨ fArg o = 1 ∨ fArg o = 2 ∨ fArg o = 3 ∨ fArg o = 4 ∨ fArg o = 5 := by decide
 exact this o h
set_option maxRecDepth 10000 in
set_option maxHeartbeats 1600000 in
theorem isArgC {lim : Nat} {W : World} {q : Nat} {g : Pg} {p : Pv} (h : WC lim W q g p) (o : Nat) (ho : o ≤ 32) (a : Int) : Calls Tryz.prog 120 #[.pointer (some ⟨q, 0, none⟩), .agg #[.int .i64 (o : Nat), .int .i64 a]] W fun e w' => e = .returned (.bool (argF p o a)) ∧ Hid (Below W.heap.size W w') := by
 obtain ⟨W1, hW1⟩ : ∃ W1, W.alloc (.cells #[.int .i64 (o : Nat), .int .i64 a] 42) = W1 := ⟨_, rfl⟩
 have B1 : Below W.heap.size W W1 := by rw [← hW1]; exact below_alloc1 W _
 have A1 : W1.heap[W.heap.size]? = some (.cells #[.int .i64 (o : Nat), .int .i64 a] 42 (0, 0)) := by rw [← hW1]; exact alloc_atK _ _
 have h1 := h.kept B1
 obtain ⟨c0, c1, c8, ql⟩ := h1.cells
 have ht := h1.tab.a o ho
 have hz := h1.tab.z
 have z0 := block_cell A1 0
 have z1 := block_cell A1 1
 have zl := block_lt A1
 simp at z0 z1
 have HB : Hid (∀ q, Below W.heap.size W (W1.drewN q)) := fun q => Go.below_drewN B1 q
 have HB1 := hide B1
 have HW1 := hide hW1
 clear h h1 A1 B1 hW1
 have hq0 : 0 < W1.heap.size := by omega
 unfold argF
 have ht' : ∀ x : Nat, fArg o = x → W1.cell? ⟨0, o * 3, none⟩ = some (.int .i64 (x : Nat)) := fun x hx => by rw [ht, hx]
 clear ht
 rcases fArg_le o ho with e | e | e | e | e | e
 ·-- none
  have ht : W1.cell? ⟨0, o * 3, none⟩ = some (.int .i64 0) := ht' _ e
  clear ht'
  rw [if_neg (by omega), if_neg (by omega), if_neg (by omega), if_neg (by omega), if_neg (by omega)]
  by_cases h0 : a = 0
  ·rw [decide_eq_true h0]
   subst h0
   go_enter Tryz.func120, Tryz.ntmps120
   go_upto_region 1 with fail
   rw [HW1.out]
   go_wp2
   go_ret
   exact ⟨rfl, HB1⟩
  ·rw [decide_eq_false h0]
   have e0 : (a == 0) = false := by simpa using h0
   go_enter Tryz.func120, Tryz.ntmps120
   go_upto_region 1 with fail
   rw [HW1.out]
   go_wp2
   go_ret
   exact ⟨rfl, HB1⟩
 ·-- kind 1
  have ht : W1.cell? ⟨0, o * 3, none⟩ = some (.int .i64 1) := ht' _ e
  clear ht'
  rw [if_pos e]
  have HIP : Hid (∀ w, Calls Tryz.prog 29 #[.int .i64 a, .int .i64 ((p.nc : Nat) : Int)] w fun e w' => e = .returned (.bool (isPl a p.nc)) ∧ ∃ q, w' = w.drewN q) := fun w => isPlace_q a p.nc w
  generalize isPl a p.nc = rr at *
  go_enter Tryz.func120, Tryz.ntmps120
  go_upto_region 1 with fail
  rw [HW1.out]
  go_wp2_with fail
  go_quiet (first | (go_at_call 29; exact Calls.quiet_of (HIP.out _)))
  go_wp2
  go_ret
  exact ⟨rfl, HB.out _⟩
 ·-- kind 2
  have ht : W1.cell? ⟨0, o * 3, none⟩ = some (.int .i64 2) := ht' _ e
  clear ht'
  rw [if_neg (by omega), if_pos e]
  have HIP : Hid (∀ w, Calls Tryz.prog 29 #[.int .i64 a, .int .i64 ((8 : Nat) : Int)] w fun e w' => e = .returned (.bool (isPl a 8)) ∧ ∃ q, w' = w.drewN q) := fun w => isPlace_q a 8 w
  generalize isPl a 8 = rr at *
  go_enter Tryz.func120, Tryz.ntmps120
  go_upto_region 1 with fail
  rw [HW1.out]
  go_wp2_with fail
  refine (HIP.out _).mono ?_
  rintro e w2 ⟨rfl, q2, hw2⟩
  rw [hw2]
  clear hw2
  go_wp2
  go_ret
  exact ⟨rfl, HB.out _⟩
 ·-- kind 3
  have ht : W1.cell? ⟨0, o * 3, none⟩ = some (.int .i64 3) := ht' _ e
  clear ht'
  rw [if_neg (by omega), if_neg (by omega), if_pos e]
  have HIP : Hid (∀ w, Calls Tryz.prog 29 #[.int .i64 a, .int .i64 ((p.ns : Nat) : Int)] w fun e w' => e = .returned (.bool (isPl a p.ns)) ∧ ∃ q, w' = w.drewN q) := fun w => isPlace_q a p.ns w
  generalize isPl a p.ns = rr at *
  go_enter Tryz.func120, Tryz.ntmps120
  go_upto_region 1 with fail
  rw [HW1.out]
  go_wp2_with fail
  go_quiet (first | (go_at_call 29; exact Calls.quiet_of (HIP.out _)))
  go_wp2
  go_ret
  exact ⟨rfl, HB.out _⟩
 ·-- kind 4
  have ht : W1.cell? ⟨0, o * 3, none⟩ = some (.int .i64 4) := ht' _ e
  clear ht'
  rw [if_neg (by omega), if_neg (by omega), if_neg (by omega), if_pos e]
  have HIP : Hid (∀ w, Calls Tryz.prog 29 #[.int .i64 a, .int .i64 ((p.n : Nat) : Int)] w fun e w' => e = .returned (.bool (isPl a p.n)) ∧ ∃ q, w' = w.drewN q) := fun w => isPlace_q a p.n w
  generalize isPl a p.n = rr at *
  go_enter Tryz.func120, Tryz.ntmps120
  go_upto_region 1 with fail
  rw [HW1.out]
  go_wp2_with fail
  go_quiet (first | (go_at_call 29; exact Calls.quiet_of (HIP.out _)))
  go_wp2
  go_ret
  exact ⟨rfl, HB.out _⟩
 ·-- failure
  have ht : W1.cell? ⟨0, o * 3, none⟩ = some (.int .i64 5) := ht' _ e
  clear ht'
  rw [if_neg (by omega), if_neg (by omega), if_neg (by omega), if_neg (by omega), if_pos e]
  by_cases h0 : 1 ≤ a
  ·by_cases h9 : a ≤ 999
   ·rw [decide_eq_true h0, decide_eq_true h9]
    go_enter Tryz.func120, Tryz.ntmps120
    go_upto_region 1 with fail
    rw [HW1.out]
    go_wp2
    go_ret
    exact ⟨rfl, HB1⟩
   ·rw [decide_eq_true h0, decide_eq_false h9]
    go_enter Tryz.func120, Tryz.ntmps120
    go_upto_region 1 with fail
    rw [HW1.out]
    go_wp2
    go_ret
    exact ⟨rfl, HB1⟩
  ·rw [decide_eq_false h0]
   go_enter Tryz.func120, Tryz.ntmps120
   go_upto_region 1 with fail
   rw [HW1.out]
   go_wp2
   go_ret
   exact ⟨rfl, HB1⟩
def insB (p : Pv) (j : Nat) : Option (Int × Int) := if isO (p.op j) = false then some ((j : Int), 83) else if argF p (p.op j).toNat (p.arg j) = false then some ((j : Int), 84) else none
def insF (p : Pv) : Option (Int × Int) := firstBad (insB p) p.n
theorem isO_nat {a : Int} (h : isO a = true) : a = ((a.toNat : Nat) : Int) ∧ a.toNat ≤ 32 ∧ 1 ≤ a.toNat := by
 simp [isO] at h
 omega
set_option maxRecDepth 10000 in
set_option maxHeartbeats 1600000 in
theorem checkInsC {lim : Nat} {W : World} {q : Nat} {g : Pg} {p : Pv} (h : WC lim W q g p) : Calls Tryz.prog 64 #[.pointer (some ⟨q, 0, none⟩)] W (Ck W (insF p)) := by
 obtain ⟨c0, c1, c8, ql⟩ := h.cells
 have hli := h.ok.li
 obtain ⟨r, hr⟩ : ∃ r, insF p = r := ⟨_, rfl⟩
 rw [hr]
 have HR := hide hr
 have HH := hide h
 have HA := hide h.ok.hi
 clear h c0 c1 hr
 go_enter Tryz.func64, Tryz.ntmps64
 go_wp2
 clear c8 ql
 go_loopw [10] (fun i wr => ∃ j : Nat, j ≤ p.n ∧ i = .int .i64 (j : Nat) ∧ Hid (firstBad (insB p) j = none ∧ Below W.heap.size W wr)) (fun i _ => p.n - (intOf i).toNat)
 case atStart => exact ⟨0, by omega, rfl, rfl, Below.refl _ _⟩
 case round =>
  obtain ⟨j, hj, rfl, HJ⟩ := hrel
  by_cases hlt : j < p.n
  ·have hk := HH.out.kept HJ.out.2
   have vo := hk.ok.vo j hlt
   have va := hk.ok.va j hlt
   obtain ⟨hia, hib⟩ := HA.out (by omega)
   have hbl : g.ib < wr.heap.size := Nat.lt_of_lt_of_le hib hk.le
   have HHit : Hid (∀ x y, insB p j = some (x, y) → r = some (x, y)) := fun x y hb => HR.out.symm.trans (firstBad_hit hlt HJ.out.1 hb)
   have HNx : Hid (insB p j = none → firstBad (insB p) (j + 1) = none) := fun hb => firstBad_next HJ.out.1 hb
   unfold insB at HHit HNx
   rw [hia]
   obtain ⟨W1, hW1⟩ : ∃ W1, wr.alloc (.cells #[.int .i64 (p.op j), .int .i64 (p.arg j)] 42) = W1 := ⟨_, rfl⟩
   have B1 : Below wr.heap.size wr W1 := by rw [← hW1]; exact below_alloc1 wr _
   have A1 : W1.heap[wr.heap.size]? = some (.cells #[.int .i64 (p.op j), .int .i64 (p.arg j)] 42 (0, 0)) := by rw [← hW1]; exact alloc_atK _ _
   have HK1 := hide (hk.kept B1)
   have z0 := block_cell A1 0
   have z1 := block_cell A1 1
   have zl := block_lt A1
   simp at z0 z1
   have HBW : Hid (Below W.heap.size W W1) := HJ.out.2.trans (B1.mono HJ.out.2.size)
   have HIO := hide (isOp_any (p.op j) W1)
   have HIA : Hid (isO (p.op j) = true → Calls Tryz.prog 120 #[.pointer (some ⟨q, 0, none⟩), .agg #[.int .i64 (p.op j), .int .i64 (p.arg j)]] W1 fun e w' => e = .returned (.bool (argF p (p.op j).toNat (p.arg j))) ∧ Hid (Below W1.heap.size W1 w')) := fun hio => by
    have e := isO_nat hio
    have := isArgC HK1.out (p.op j).toNat e.2.1 (p.arg j)
    rw [← e.1] at this
    exact this
   have HW1 := hide hW1
   clear A1 B1 hW1 hk hia HJ HR
   generalize p.op j = oo at *
   generalize p.arg j = aa at *
   go_upto_region 3 with fail
   rw [HW1.out]
   clear HW1 vo va
   go_wp2_with fail
   refine HIO.out.mono ?_
   rintro e w1 ⟨rfl, hw⟩
   rw [hw]
   clear hw
   cases hio : isO oo
   ·have hr := HHit.out _ _ (if_pos hio)
    subst hr
    go_wp2_with fail
    refine (giveUp_any _ _ _).mono ?_
    rintro e w2 ⟨g, rfl, G⟩
    have HG : Hid (Ft w2.heap.size w2 (.iface 74 (.pointer (some ⟨g, 0, none⟩))) j 83 ∧ Below W.heap.size W w2) := ⟨G.out.1, HBW.out.trans (G.out.2.mono HBW.out.size)⟩
    go_wp2
    exact ⟨rfl, g, rfl, HG⟩
   ·have HIA := hide (HIA.out hio)
    have HHit : Hid (∀ x y, (if argF p oo.toNat aa = false then some ((j : Int), (84 : Int)) else none) = some (x, y) → r = some (x, y)) := fun x y hb => HHit.out x y (by rw [if_neg (by rw [hio]; simp)]; exact hb)
    have HNx : Hid (argF p oo.toNat aa = true → firstBad (insB p) (j + 1) = none) := fun hb => HNx.out (by rw [if_neg (by rw [hio]; simp), if_neg (by rw [hb]; simp)])
    clear hio
    go_wp2_with fail
    refine HIA.out.mono ?_
    rintro e w2 ⟨rfl, G2⟩
    have HBW2 : Hid (Below W.heap.size W w2) := HBW.out.trans (G2.out.mono HBW.out.size)
    cases hia : argF p oo.toNat aa
    ·have hr := HHit.out _ _ (if_pos hia)
     subst hr
     go_wp2_with fail
     refine (giveUp_any _ _ _).mono ?_
     rintro e w3 ⟨g, rfl, G⟩
     have HG : Hid (Ft w3.heap.size w3 (.iface 74 (.pointer (some ⟨g, 0, none⟩))) j 84 ∧ Below W.heap.size W w3) := ⟨G.out.1, HBW2.out.trans (G.out.2.mono HBW2.out.size)⟩
     go_wp2
     exact ⟨rfl, g, rfl, HG⟩
    ·go_wp2
     go_roundw
     case rel => exact ⟨j + 1, by omega, by go_num, HNx.out hia, HBW2.out⟩
     case measure => simp [intOf]; omega
  ·obtain rfl : j = p.n := by omega
   have hr : r = none := HR.out.symm.trans HJ.out.1
   subst hr
   have HB := hide HJ.out.2
   clear HJ
   go_wp2
   go_end0
   exact ⟨rfl, HB.out⟩
end Go.Proofs.YtggpaljilpbmhaaGreatDoor
