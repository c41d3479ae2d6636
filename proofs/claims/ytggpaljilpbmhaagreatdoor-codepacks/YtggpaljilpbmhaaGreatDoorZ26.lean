import Derived.Test.YtggpaljilpbmhaaGreatDoorZ25
import Derived.Deep.DeepCutAuto
import Derived.Deep.CutBlock
namespace Go.Proofs.YtggpaljilpbmhaaGreatDoor
open Go.RowKit

/-- Instructions as they lie in a row. -/
def nums2 (o a : Nat → Int) (n : Nat) : List Value := (List.range (n * 2)).map (fun i => if i % 2 = 0 then Value.int .i64 (o (i / 2)) else Value.int .i64 (a (i / 2)))
theorem nums2_len (o a : Nat → Int) (n : Nat) : (nums2 o a n).length = n * 2 := by simp [nums2]
theorem nums2_o {o a : Nat → Int} {n j : Nat} (h : j < n) : (nums2 o a n)[j * 2]? = some (.int .i64 (o j)) := by
 have h1 : j * 2 < n * 2 := by omega
 have h2 : j * 2 % 2 = 0 := by omega
 have h3 : j * 2 / 2 = j := by omega
 simp [nums2, h1, h2, h3]
theorem nums2_a {o a : Nat → Int} {n j : Nat} (h : j < n) : (nums2 o a n)[j * 2 + 1]? = some (.int .i64 (a j)) := by
 have h1 : j * 2 + 1 < n * 2 := by omega
 have h2 : (j * 2 + 1) % 2 = 1 := by omega
 have h3 : (j * 2 + 1) / 2 = j := by omega
 simp [nums2, h1, h2, h3]
theorem nums2_next (o a : Nat → Int) (n : Nat) : nums2 o a (n + 1) = nums2 o a n ++ [.int .i64 (o n), .int .i64 (a n)] := by
 have h1 : (n + 1) * 2 = n * 2 + 1 + 1 := by omega
 have h2 : n * 2 % 2 = 0 := by omega
 have h3 : n * 2 / 2 = n := by omega
 have h4 : (n * 2 + 1) % 2 = 1 := by omega
 have h5 : (n * 2 + 1) / 2 = n := by omega
 unfold nums2
 rw [h1, List.range_succ, List.range_succ]
 simp [h2, h3, h4, h5]
theorem nums2_congr {o o' a a' : Nat → Int} {n : Nat} (ho : ∀ j, j < n → o j = o' j) (ha : ∀ j, j < n → a j = a' j) : nums2 o a n = nums2 o' a' n := by
 unfold nums2
 apply List.map_congr_left
 intro i hi
 have hi := List.mem_range.1 hi
 rw [ho (i / 2) (by omega), ha (i / 2) (by omega)]
/-- A row of instructions that a call owns. -/
abbrev Irow (w : World) (B : Nat) (v : Value) (n : Nat) (o a : Nat → Int) : Prop := w.ownsRow B 42 2 v n (nums2 o a n)
theorem irow_val {w : World} {B n : Nat} {v : Value} {o a : Nat → Int} (h : Irow w B v n o a) : ∃ ao cap, v = .slice ao n cap ∧ n ≤ cap ∧ (0 < n → ∃ g, ao = some ⟨g, 0, none⟩ ∧ B ≤ g ∧ g < w.heap.size ∧ ∀ j, j < n → w.cell? ⟨g, j * 2, none⟩ = some (.int .i64 (o j)) ∧ w.cell? ⟨g, j * 2 + 1, none⟩ = some (.int .i64 (a j)) ∧ w.frozen? ⟨g, j * 2 + 1, none⟩ = false) := by
 rcases h.2 with ⟨rfl, h0⟩ | ⟨g, cap, cur, rfl, hb, hc, hnc, _, hsz, htk⟩
 ·subst h0
  exact ⟨none, 0, rfl, Nat.le_refl _, fun h => by omega⟩
 ·refine ⟨_, cap, rfl, hnc, fun _ => ⟨g, rfl, hb, block_lt hc, fun j hj => ⟨?_, ?_, block_free hc _⟩⟩⟩
  ·have h2 := nums2_o (o := o) (a := a) hj
   rw [← htk, List.getElem?_take, if_pos (by omega)] at h2
   rw [block_cell hc]
   simpa using h2
  ·have h2 := nums2_a (o := o) (a := a) hj
   rw [← htk, List.getElem?_take, if_pos (by omega)] at h2
   rw [block_cell hc]
   simpa using h2
theorem irow_set {w : World} {B n g cap j : Nat} {o a : Nat → Int} {x : Int} (h : Irow w B (.slice (some ⟨g, 0, none⟩) n cap) n o a) (hj : j < n) : Irow (w.setCell ⟨g, j * 2 + 1, none⟩ (.int .i64 x)) B (.slice (some ⟨g, 0, none⟩) n cap) n o (fun y => if y = j then x else a y) := by
 refine ⟨by rw [nums2_len], ?_⟩
 rcases h.2 with ⟨e, _⟩ | ⟨g', cap', cur, e, hb, hc, hnc, hm, hsz, htk⟩
 ·cases e
 ·cases e
  refine .inr ⟨g, cap, cur.setIfInBounds (j * 2 + 1) (.int .i64 x), rfl, hb, ?_, hnc, hm, by simpa using hsz, ?_⟩
  ·simp [World.setCell, Array.getElem?_modify, hc]
  ·apply List.ext_getElem?
   intro i
   rw [List.getElem?_take]
   have hl : ∀ i, i < n * 2 → cur.toList[i]? = (nums2 o a n)[i]? := fun i hi => by rw [← htk, List.getElem?_take, if_pos hi]
   by_cases hi : i < n * 2
   ·rw [if_pos hi]
    rcases Nat.mod_two_eq_zero_or_one i with hm2 | hm2
    ·obtain ⟨q, rfl⟩ : ∃ q, i = q * 2 := ⟨i / 2, by omega⟩
     rw [nums2_o (by omega)]
     have := hl (q * 2) hi
     rw [nums2_o (by omega)] at this
     simp only [Array.toList_setIfInBounds]
     rw [List.getElem?_set_ne (by omega)]
     exact this
    ·obtain ⟨q, rfl⟩ : ∃ q, i = q * 2 + 1 := ⟨i / 2, by omega⟩
     rw [nums2_a (by omega)]
     have := hl (q * 2 + 1) hi
     rw [nums2_a (by omega)] at this
     simp only [Array.toList_setIfInBounds]
     by_cases eq : q = j
     ·subst eq
      rw [List.getElem?_set_self (by simp; omega), if_pos rfl]
     ·rw [List.getElem?_set_ne (by omega), if_neg eq]
      exact this
   ·rw [if_neg hi, List.getElem?_eq_none (by rw [nums2_len]; omega)]
theorem irow_congr {w : World} {B n : Nat} {v : Value} {o o' a a' : Nat → Int} (h : Irow w B v n o a) (ho : ∀ j, j < n → o j = o' j) (ha : ∀ j, j < n → a j = a' j) : Irow w B v n o' a' := by
 unfold Irow at *
 rw [← nums2_congr ho ha]
 exact h
theorem irow_off {w w' : World} {B n : Nat} {v : Value} {o a : Nat → Int} (h : Irow w B v n o a) {q : Nat} {cs : Array Value} {t : TypeId} {z : Nat × Nat} (hq : w.heap[q]? = some (.cells cs t z)) (ht : t ≠ 42) (hg : w.grownBy w' (some q)) : Irow w' B v n o a := by
 refine World.ownsRow.kept h hg ?_
 rcases h.2 with ⟨rfl, _⟩ | ⟨g, cap, cur, rfl, _, hc, _⟩
 ·exact .inl rfl
 ·right
  intro e
  simp [Value.ownBlock] at e
  subst e
  rw [hc] at hq
  cases hq
  exact ht rfl
theorem irow_below {w w' : World} {B n : Nat} {v : Value} {o a : Nat → Int} (h : Irow w B v n o a) (hb : Below w.heap.size w w') : Irow w' B v n o a :=
 World.ownsRow.kept (row := none) h ⟨hb.os, hb.tape, hb.output, hb.size, fun k hk _ => hb.block k hk⟩ (by cases hv : v.ownBlock <;> simp)
end Go.Proofs.YtggpaljilpbmhaaGreatDoor
namespace Go.Proofs.YtggpaljilpbmhaaGreatDoor
open Go.RowKit

/-- The program while its entries are moved. -/
def pE (p : Pv) (K : Nat → Bool) (e : Nat) : Pv := ⟨p.nc, p.ns, p.n, p.C, p.S, fun x => if x < e ∧ 0 ≤ p.en x then ((cnt K (p.en x).toNat : Nat) : Int) else p.en x, p.op, p.arg⟩
def zP : Array Value := #[.slice none 0 0, .slice none 0 0, .int .i64 0, .int .i64 0, .int .i64 0, .int .i64 0, .int .i64 0, .int .i64 0, .slice none 0 0]
theorem pE_skip (g : Pg) (p : Pv) (K : Nat → Bool) (e : Nat) (h : ¬ 0 ≤ p.en e) : g.cs (pE p K (e + 1)) = g.cs (pE p K e) := by
 have key : ∀ x, (pE p K (e + 1)).en x = (pE p K e).en x := fun x => by
  show (if x < e + 1 ∧ 0 ≤ p.en x then _ else _) = (if x < e ∧ 0 ≤ p.en x then _ else _)
  by_cases q : x = e
  ·subst q
   rw [if_neg (fun y => h y.2), if_neg (fun y => h y.2)]
  ·by_cases y : x < e
   ·by_cases z : 0 ≤ p.en x
    ·rw [if_pos ⟨by omega, z⟩, if_pos ⟨y, z⟩]
    ·rw [if_neg (fun y => z y.2), if_neg (fun y => z y.2)]
   ·rw [if_neg (fun z => by omega), if_neg (fun z => y z.1)]
 unfold Pg.cs
 rw [key, key, key, key, key, key]
 rfl
/-- Filtering under way: the program's box, the result's, the new places, the row of instructions. -/
structure Fi (W : World) (g : Pg) (p : Pv) (K : Nat → Bool) (e j mb : Nat) (v : Value) (m : Nat) (o a : Nat → Int) (w : World) : Prop where
 pb : w.heap[W.heap.size]? = some (.cells (g.cs (pE p K e)).toArray 27 (0, 0))
 rb : w.heap[W.heap.size + 1]? = some (.cells zP 27 (0, 0))
 mo : ∃ ms : Array Value, w.heap[mb]? = some (.cells ms 3 (0, 0)) ∧ ms.size = p.n ∧ ∀ i, i < j → ms[i]? = some (.int .i64 ((cnt K i : Nat) : Int))
 mn : W.heap.size ≤ mb
 ow : Irow w W.heap.size v m o a
 ok : g.Ok p W.heap.size w
 tab : Tab w
 bel : Below W.heap.size W w
 z : 10 < W.heap.size
theorem Fi.keep {W : World} {g : Pg} {p : Pv} {K : Nat → Bool} {e j mb m : Nat} {v : Value} {o a : Nat → Int} {w w' : World} (h : Fi W g p K e j mb v m o a w) {v' : Value} {m' : Nat} {o' a' : Nat → Int} (hb : Below W.heap.size w w') (h1 : w'.heap[W.heap.size]? = w.heap[W.heap.size]?) (h2 : w'.heap[W.heap.size + 1]? = w.heap[W.heap.size + 1]?) (h3 : w'.heap[mb]? = w.heap[mb]?) (h4 : Irow w' W.heap.size v' m' o' a') : Fi W g p K e j mb v' m' o' a' w' := by
 obtain ⟨ms, q1, q2⟩ := h.mo
 exact ⟨h1.trans h.pb, h2.trans h.rb, ⟨ms, h3.trans q1, q2⟩, h.mn, h4, h.ok.kept hb (Nat.le_refl _), h.tab.below hb h.z, h.bel.trans hb, h.z⟩
theorem Fi.next {W : World} {g : Pg} {p : Pv} {K : Nat → Bool} {e j mb m : Nat} {v : Value} {o a : Nat → Int} {w w' : World} (h : Fi W g p K e j mb v m o a w) (hb : Below w.heap.size w w') : Fi W g p K e j mb v m o a w' := by
 obtain ⟨ms, q1, q2⟩ := h.mo
 exact h.keep (hb.mono h.bel.size) (hb.block _ (block_lt h.pb)) (hb.block _ (block_lt h.rb)) (hb.block _ (block_lt q1)) (irow_below h.ow hb)
/-- An append to the row. -/
theorem Fi.app {W : World} {g : Pg} {p : Pv} {K : Nat → Bool} {e j mb m : Nat} {v v' : Value} {o a o' a' : Nat → Int} {m' : Nat} {w w' : World} (h : Fi W g p K e j mb v m o a w) (hg : w.grownBy w' v.ownBlock) (h4 : Irow w' W.heap.size v' m' o' a') : Fi W g p K e j mb v' m' o' a' w' := by
 obtain ⟨ms, q1, q2⟩ := h.mo
 have off : ∀ (q : Nat) (cs : Array Value) (t : TypeId), w.heap[q]? = some (.cells cs t (0, 0)) → t ≠ 42 → w'.heap[q]? = w.heap[q]? := fun q cs t hq ht => by
  refine hg.block q (block_lt hq) (fun x => ?_)
  rcases h.ow.2 with ⟨rfl, _⟩ | ⟨g', cap, cur, rfl, _, hc, _⟩
  ·cases x
  ·simp [Value.ownBlock] at x
   subst x
   rw [hc] at hq
   cases hq
   exact ht rfl
 refine h.keep ((Below.refl _ w).grown hg h.bel.size (fun x hx => (h.ow.lt x hx).1)) (off _ _ _ h.pb (by decide)) (off _ _ _ h.rb (by decide)) (off _ _ _ q1 (by decide)) h4
theorem grown_setT (w : World) (q i : Nat) (u : Value) : w.grownBy (w.setCell ⟨q, i, none⟩ u) (some q) := ⟨rfl, rfl, rfl, by simp [World.setCell], fun k _ hk => Below.heap_setCell _ _ _ _ (fun e => hk (by simp [e]))⟩
/-- A place is told its new number. -/
theorem Fi.move {W : World} {g : Pg} {p : Pv} {K : Nat → Bool} {e j mb m : Nat} {v : Value} {o a : Nat → Int} {w : World} (h : Fi W g p K e j mb v m o a w) (hj : j < p.n) : Fi W g p K e (j + 1) mb v m o a (w.setCell ⟨mb, j, none⟩ (.int .i64 ((cnt K j : Nat) : Int))) := by
 obtain ⟨ms, q1, q2, q3⟩ := h.mo
 have hg := grown_setT w mb j (.int .i64 ((cnt K j : Nat) : Int))
 have ne1 : W.heap.size ≠ mb := fun x => by have := h.pb; rw [x, q1] at this; cases this
 have ne2 : W.heap.size + 1 ≠ mb := fun x => by have := h.rb; rw [x, q1] at this; cases this
 have hb : Below W.heap.size w (w.setCell ⟨mb, j, none⟩ (.int .i64 ((cnt K j : Nat) : Int))) := (Below.refl _ w).setCell (p := ⟨mb, j, none⟩) h.mn _
 refine ⟨(hg.block _ (block_lt h.pb) (by simpa using ne1)).trans h.pb, (hg.block _ (block_lt h.rb) (by simpa using ne2)).trans h.rb, ⟨ms.setIfInBounds j (.int .i64 ((cnt K j : Nat) : Int)), ?_, by simpa using q2, fun i hi => ?_⟩, h.mn, irow_off h.ow q1 (by decide) hg, h.ok.kept hb (Nat.le_refl _), h.tab.below hb h.z, h.bel.trans hb, h.z⟩
 ·simp [World.setCell, Array.getElem?_modify, q1]
 ·by_cases eq : i = j
  ·subst eq
   simp [q2, hj]
  ·rw [Array.getElem?_setIfInBounds_ne (fun x => eq x.symm)]
   exact q3 i (by omega)
/-- An argument in the row is changed. -/
theorem Fi.arg {W : World} {g : Pg} {p : Pv} {K : Nat → Bool} {e j mb m gb cap i : Nat} {o a : Nat → Int} {x : Int} {w : World} (h : Fi W g p K e j mb (.slice (some ⟨gb, 0, none⟩) m cap) m o a w) (hi : i < m) : Fi W g p K e j mb (.slice (some ⟨gb, 0, none⟩) m cap) m o (fun y => if y = i then x else a y) (w.setCell ⟨gb, i * 2 + 1, none⟩ (.int .i64 x)) :=
 h.app (grown_setT w gb _ _) (irow_set h.ow hi)
theorem Fi.skip {W : World} {g : Pg} {p : Pv} {K : Nat → Bool} {e j mb m : Nat} {v : Value} {o a : Nat → Int} {w : World} (h : Fi W g p K e j mb v m o a w) (h0 : ¬ 0 ≤ p.en e) : Fi W g p K (e + 1) j mb v m o a w :=
 ⟨by rw [pE_skip g p K e h0]; exact h.pb, h.rb, h.mo, h.mn, h.ow, h.ok, h.tab, h.bel, h.z⟩
theorem Fi.cells {W : World} {g : Pg} {p : Pv} {K : Nat → Bool} {e j mb m : Nat} {v : Value} {o a : Nat → Int} {w : World} (h : Fi W g p K e j mb v m o a w) : w.cell? ⟨W.heap.size, 0, none⟩ = some (.slice g.ca p.nc g.cc) ∧ w.cell? ⟨W.heap.size, 1, none⟩ = some (.slice g.sa p.ns g.sc) ∧ w.cell? ⟨W.heap.size, 8, none⟩ = some (.slice g.ia p.n g.ic) ∧ W.heap.size < w.heap.size :=
 ⟨block_cell h.pb 0, block_cell h.pb 1, block_cell h.pb 8, block_lt h.pb⟩
theorem Fi.congr {W : World} {g : Pg} {p : Pv} {K : Nat → Bool} {e j mb m : Nat} {v : Value} {o a a' : Nat → Int} {w : World} (h : Fi W g p K e j mb v m o a w) (ha : ∀ y, y < m → a y = a' y) : Fi W g p K e j mb v m o a' w :=
 ⟨h.pb, h.rb, h.mo, h.mn, irow_congr h.ow (fun _ _ => rfl) ha, h.ok, h.tab, h.bel, h.z⟩
end Go.Proofs.YtggpaljilpbmhaaGreatDoor
