import Derived.Test.YtcfenjpdjogmdaaGreatLA09
import Derived.Deep.RegionLaw
import Derived.Deep.RegionHeld
import Derived.Deep.DeepAppendWide
namespace Go.Proofs.YtcfenjpdjogmdaaGreat
open Go.RowKit

theorem block_cell {w : World} {p : Nat} {cs : Array Value} {t : TypeId} (h : w.heap[p]? = some (.cells cs t (0, 0))) (j : Nat) : w.cell? ⟨p, j, none⟩ = cs[j]? := cell_of_row w p j cs t (0, 0) h
theorem block_free {w : World} {p : Nat} {cs : Array Value} {t : TypeId} (h : w.heap[p]? = some (.cells cs t (0, 0))) (j : Nat) : w.frozen? ⟨p, j, none⟩ = false := frozen_of_row w p j cs t h
theorem block_lt {w : World} {p : Nat} {o : Obj} (h : w.heap[p]? = some o) : p < w.heap.size := (Array.getElem?_eq_some_iff.1 h).1

/-- A link of a chain of faults: the layer's name and the place. -/
structure Lk where
  (layer : ByteArray) (at_ : Int)
def Lk.cells (l : Lk) : List Value := [.string l.layer, .int .i64 l.at_]
def lkcells (L : List Lk) : List Value := (L.map Lk.cells).flatten
theorem lkcells_snoc (L : List Lk) (l : Lk) : lkcells (L ++ [l]) = lkcells L ++ [.string l.layer, .int .i64 l.at_] := by simp [lkcells, Lk.cells]
/-- An error that is a chain of faults with a number at its end. -/
def Chain (lim : Nat) (w : World) : List Lk → Value → Int → Prop
  | [], v, c => v = .iface 57 (.int .i64 c)
  | l :: r, v, c => ∃ (g : Nat) (u : Value), v = .iface 137 (.pointer (some ⟨g, 0, none⟩)) ∧ g < lim ∧ w.cell? ⟨g, 0, none⟩ = some (.string l.layer) ∧ w.cell? ⟨g, 1, none⟩ = some (.int .i64 l.at_) ∧ w.cell? ⟨g, 2, none⟩ = some u ∧ Chain lim w r u c
theorem Chain.below {lim : Nat} {w w' : World} (hb : Below lim w w') : ∀ {L : List Lk} {v : Value} {c : Int}, Chain lim w L v c → Chain lim w' L v c
  | [], _, _, h => h
  | _ :: _, _, _, h => by
    obtain ⟨g, u, e, hg, c0, c1, c2, h⟩ := h
    exact ⟨g, u, e, hg, (hb.cell (p := ⟨g, 0, none⟩) hg).trans c0, (hb.cell (p := ⟨g, 1, none⟩) hg).trans c1, (hb.cell (p := ⟨g, 2, none⟩) hg).trans c2, Chain.below hb h⟩
theorem Chain.wide {lim lim' : Nat} {w : World} (hl : lim ≤ lim') : ∀ {L : List Lk} {v : Value} {c : Int}, Chain lim w L v c → Chain lim' w L v c
  | [], _, _, h => h
  | _ :: _, _, _, h => by
    obtain ⟨g, u, e, hg, c0, c1, c2, h⟩ := h
    exact ⟨g, u, e, Nat.lt_of_lt_of_le hg hl, c0, c1, c2, Chain.wide hl h⟩
/-- A refusal as plain data. -/
structure FV (lim : Nat) (w : World) (ao : Option Addr) (L : List Lk) (b off : Nat) : Prop where
  ad : 0 < L.length → ao = some ⟨b, off, none⟩
  lt : 0 < L.length → b < lim
  le : L.length ≤ 1000
  at_ : ∀ (i : Nat) (l : Lk), L[i]? = some l → w.cell? ⟨b, off + i * 2, none⟩ = some (.string l.layer) ∧ w.cell? ⟨b, off + i * 2 + 1, none⟩ = some (.int .i64 l.at_)
theorem FV.below {lim : Nat} {w w' : World} {ao : Option Addr} {L : List Lk} {b off : Nat} (h : FV lim w ao L b off) (hb : Below lim w w') : FV lim w' ao L b off :=
  ⟨h.ad, h.lt, h.le, fun i l hl => by
    have hlt := h.lt (by have := (List.getElem?_eq_some_iff.1 hl).1; omega)
    exact ⟨(hb.cell (p := ⟨b, _, none⟩) hlt).trans (h.at_ i l hl).1, (hb.cell (p := ⟨b, _, none⟩) hlt).trans (h.at_ i l hl).2⟩⟩
theorem FV.wide {lim lim' : Nat} {w : World} {ao : Option Addr} {L : List Lk} {b off : Nat} (h : FV lim w ao L b off) (hl : lim ≤ lim') : FV lim' w ao L b off := ⟨h.ad, fun e => Nat.lt_of_lt_of_le (h.lt e) hl, h.le, h.at_⟩
theorem FV.nil (lim : Nat) (w : World) (ao : Option Addr) (b off : Nat) : FV lim w ao [] b off := ⟨fun h => by simp at h, fun h => by simp at h, by simp, fun i l h => by simp at h⟩
theorem row_quietT {base size k : Nat} {e : TypeId} {w w' : World} {v : Value} {xs : List Value} (h : w.ownsRow base e size v k xs) (hg : w.grownBy w' none) : w'.ownsRow base e size v k xs := by
  refine h.kept hg ?_
  cases v.ownBlock with
  | none => exact .inl rfl
  | some g => exact .inr (by simp)
/-- Between two links of a chain. -/
structure Tl (w : World) (L : List Lk) (c : Int) (k : Nat) (v u : Value) (W : World) : Prop where
  bel : Below w.heap.size w W
  res : ∃ Z : Array Value, W.heap[w.heap.size]? = some (.cells Z 97 (0, 0)) ∧ Z.size = 2
  box : W.heap[w.heap.size + 1]? = some (.cells #[v, .int .i64 0] 97 (0, 0))
  row : W.ownsRow w.heap.size 184 2 v k (lkcells (L.take k))
  ch : Chain w.heap.size W (L.drop k) u c
theorem Tl.next {w : World} {L : List Lk} {c : Int} {k : Nat} {v u : Value} {W : World} (h : Tl w L c k v u W) {l : Lk} (hl : L[k]? = some l) {u' v' : Value} (hu : Chain w.heap.size W (L.drop (k + 1)) u' c) {W1 w2 : World} {o2 : Obj} (h1 : W.grownBy W1 none) (ho : w2.ownsRow w.heap.size 184 2 v' (k + 1) (lkcells (L.take k) ++ [.string l.layer, .int .i64 l.at_])) (hg : (W1.alloc o2).grownBy w2 v.ownBlock) :
    Tl w L c (k + 1) v' u' (w2.setCell ⟨w.heap.size + 1, 0, none⟩ v') ∧ w2.cell? ⟨w.heap.size + 1, 0, none⟩ = some v ∧ w2.frozen? ⟨w.heap.size + 1, 0, none⟩ = false := by
  have gA := grown_quiet h1 (World.grownBy_alloc W1 o2 none)
  have row1 := row_quietT h.row gA
  have ne : ∀ (j : Nat) (X : Array Value), (W1.alloc o2).heap[j]? = some (.cells X 97 (0, 0)) → some j ≠ v.ownBlock := fun j X hX e => by
    rcases row1.2 with ⟨rfl, _⟩ | ⟨g', cap, cur, rfl, _, hb, _⟩
    · cases e
    · cases e
      rw [hb] at hX
      cases hX
  obtain ⟨Z, z1, z2⟩ := h.res
  have z3 := (gA.block _ (block_lt z1) (by simp)).trans z1
  have b3 := (gA.block _ (block_lt h.box) (by simp)).trans h.box
  have z4 := (hg.block _ (block_lt z3) (ne _ _ z3)).trans z3
  have b4 := (hg.block _ (block_lt b3) (ne _ _ b3)).trans b3
  have bel1 := h.bel.grown gA h.bel.size (fun k e => by cases e)
  have bel2 := bel1.grown hg bel1.size (fun k e => (row1.lt k e).1)
  have hvb : v'.ownBlock ≠ some (w.heap.size + 1) := fun e => by
    rcases ho.2 with ⟨rfl, _⟩ | ⟨g', cap, cur, rfl, _, hb, _⟩
    · cases e
    · cases e
      rw [b4] at hb
      cases hb
  have hbW : Below w.heap.size W w2 := ⟨hg.os.trans gA.os, hg.tape.trans gA.tape, hg.output.trans gA.output, Nat.le_trans gA.size hg.size, fun i hi => (hg.block i (Nat.lt_of_lt_of_le hi bel1.size) (fun e => absurd (row1.lt i e.symm).1 (by omega))).trans (gA.block i (Nat.lt_of_lt_of_le hi h.bel.size) (by simp))⟩
  have gs := grown_set w2 (w.heap.size + 1) 0 v'
  refine ⟨⟨bel2.grown gs bel2.size (fun k e => by cases e; omega), ⟨Z, (gs.block _ (block_lt z4) (by simp)).trans z4, z2⟩, ?_, ?_, Chain.below (hbW.trans ((Below.refl _ w2).setCell (p := ⟨w.heap.size + 1, 0, none⟩) (by simp) v')) hu⟩, block_cell b4 0, block_free b4 0⟩
  · rw [heap_setCell_same w2 (w.heap.size + 1) 0 _ _ v' b4]; rfl
  · have e : lkcells (L.take (k + 1)) = lkcells (L.take k) ++ [.string l.layer, .int .i64 l.at_] := by rw [List.take_add_one, hl]; exact lkcells_snoc _ _
    rw [e]
    exact ho.kept gs (.inr hvb)
end Go.Proofs.YtcfenjpdjogmdaaGreat
