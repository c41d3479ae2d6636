import Derived.Test.YtmbclemicfffoaaZM
import Derived.Test.YtmbclemicfffoaaBKa
import Derived.BigRegion
import Derived.BigQuiet
import Derived.Deep.Cut
import Derived.RangeFuncBox
namespace Go.Proofs.Ytmbclemicfffoaa
open Go.RowKit

set_option maxRecDepth 10000 in
set_option maxHeartbeats 800000 in
theorem isNaNZ (x : Int) (w : World) : Calls Try.prog 68 #[.int .u64 x] w fun e w' => e = .returned (.bool false) ∧ w' = w := by
  go_enter Try.func68, Try.ntmps68
  go_wp2
  go_ret
  exact ⟨rfl, rfl⟩
set_option maxRecDepth 10000 in
set_option maxHeartbeats 800000 in
theorem lessZ (x y : Int) (w : World) : Calls Try.prog 58 #[.int .u64 x, .int .u64 y] w fun e w' => e = .returned (.bool (decide (x < y))) ∧ w' = w := by
  have HN := hide isNaNZ
  go_enter Try.func58, Try.ntmps58
  go_wp2_with (go_at_call 68; refine (HN.out _ _).mono ?_; rintro e w' ⟨rfl, rfl⟩)
  go_ret
  exact ⟨rfl, rfl⟩
/-- n numbers in a block of their own, from its first cell on. -/
def RowF (W : World) (g cap n : Nat) (D : Nat → Nat) : Prop := ∃ cur : Array Value, W.heap[g]? = some (.cells cur 28 (0, 0)) ∧ cur.size = cap ∧ n ≤ cap ∧ ∀ i, i < n → cur[i]? = some (.int .u64 (D i : Nat))
theorem RowF.cell {W : World} {g cap n : Nat} {D : Nat → Nat} (h : RowF W g cap n D) {i : Nat} (hi : i < n) : W.cell? ⟨g, i, none⟩ = some (.int .u64 (D i : Nat)) := by
  obtain ⟨cur, h1, _, _, h4⟩ := h
  rw [block_cell h1]
  exact h4 i hi
theorem RowF.lt {W : World} {g cap n : Nat} {D : Nat → Nat} (h : RowF W g cap n D) : g < W.heap.size := by
  obtain ⟨cur, h1, _⟩ := h
  exact block_lt h1
theorem RowF.free {W : World} {g cap n : Nat} {D : Nat → Nat} (h : RowF W g cap n D) (i : Nat) : W.frozen? ⟨g, i, none⟩ = false := by
  obtain ⟨cur, h1, _⟩ := h
  exact block_free h1 i
theorem RowF.set {W : World} {g cap n : Nat} {D : Nat → Nat} (h : RowF W g cap n D) (i y : Nat) : RowF (W.setCell ⟨g, i, none⟩ (.int .u64 (y : Nat))) g cap n (fun k => if k = i then y else D k) := by
  obtain ⟨cur, h1, h2, h3, h4⟩ := h
  refine ⟨_, heap_setCell_same W g i _ _ _ h1, by simpa using h2, h3, fun j hj => ?_⟩
  by_cases e : i = j
  · subst e
    simp only [Array.getElem?_setIfInBounds_self]
    rw [if_pos (by omega)]
    simp
  · rw [Array.getElem?_setIfInBounds_ne e, h4 j hj]
    have e' : ¬ j = i := fun h => e h.symm
    simp [e']
theorem RowF.swap {W : World} {g cap n : Nat} {D : Nat → Nat} (h : RowF W g cap n D) (i j : Nat) : RowF ((W.setCell ⟨g, i, none⟩ (.int .u64 (D j : Nat))).setCell ⟨g, j, none⟩ (.int .u64 (D i : Nat))) g cap n (swp D i j) := by
  have r := (h.set i (D j)).set j (D i)
  have e : (fun k => if k = j then D i else (fun k => if k = i then D j else D k) k) = swp D i j := by
    funext k
    show (if k = j then D i else if k = i then D j else D k) = if k = i then D j else if k = j then D i else D k
    by_cases e1 : k = j
    · by_cases e2 : k = i
      · rw [if_pos e1, if_pos e2, ← e1, ← e2]
      · rw [if_pos e1, if_neg e2, if_pos e1]
    · rw [if_neg e1, if_neg e1]
  rw [e] at r
  exact r
/-- The state of a sort that began at w with D0 and turns no place but [a, b). -/
structure ZS (B : Nat) (w : World) (g cap n a b : Nat) (D0 : Nat → Nat) (W : World) (D : Nat → Nat) : Prop where
  row : RowF W g cap n D
  perm : PermR a b D0 D
  bel : Below B w W
  bg : B ≤ g
theorem ZS.begin {B : Nat} {w : World} {g cap n : Nat} {D : Nat → Nat} (a b : Nat) (h : RowF w g cap n D) (hB : B ≤ g) : ZS B w g cap n a b D w D := ⟨h, PermR.refl _ _ _, Below.refl _ _, hB⟩
theorem ZS.drewN {B : Nat} {w : World} {g cap n a b : Nat} {D0 D : Nat → Nat} {W : World} (h : ZS B w g cap n a b D0 W D) (q : Nat) : ZS B w g cap n a b D0 (W.drewN q) D := by
  refine ⟨?_, h.perm, Go.below_drewN h.bel q, h.bg⟩
  obtain ⟨cur, h1, h2⟩ := h.row
  exact ⟨cur, by simpa using h1, h2⟩
theorem ZS.drew {B : Nat} {w : World} {g cap n a b : Nat} {D0 D : Nat → Nat} {W : World} (h : ZS B w g cap n a b D0 W D) : ZS B w g cap n a b D0 W.drew D := ⟨h.row, h.perm, h.bel.drew, h.bg⟩
theorem ZS.swap {B : Nat} {w : World} {g cap n a b : Nat} {D0 D : Nat → Nat} {W : World} (h : ZS B w g cap n a b D0 W D) {i j : Nat} (h1 : a ≤ i) (h2 : i < b) (h3 : a ≤ j) (h4 : j < b) : ZS B w g cap n a b D0 ((W.setCell ⟨g, i, none⟩ (.int .u64 (D j : Nat))).setCell ⟨g, j, none⟩ (.int .u64 (D i : Nat))) (swp D i j) :=
  ⟨h.row.swap i j, h.perm.trans (PermR.swp D h1 h2 h3 h4), (h.bel.setCell (p := ⟨g, i, none⟩) h.bg _).setCell (p := ⟨g, j, none⟩) h.bg _, h.bg⟩
/-- A call that began here, inside of [a, b). -/
theorem ZS.call {B : Nat} {w : World} {g cap n a b a' b' : Nat} {D0 D D' : Nat → Nat} {W W' : World} (h : ZS B w g cap n a b D0 W D) (h' : ZS B W g cap n a' b' D W' D') (ha : a ≤ a') (hb : b' ≤ b) : ZS B w g cap n a b D0 W' D' :=
  ⟨h'.row, h.perm.trans (h'.perm.wide ha hb), h.bel.trans h'.bel, h.bg⟩
end Go.Proofs.Ytmbclemicfffoaa
