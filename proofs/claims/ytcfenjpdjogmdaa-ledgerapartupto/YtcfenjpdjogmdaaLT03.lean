import Derived.Test.YtcfenjpdjogmdaaLT09
import Derived.Deep.RegionLaw
import Derived.Deep.RegionHeld
import Derived.Deep.DeepAppendWide
namespace Go.Proofs.Ytcfenjpdjogmdaa
open Go.RowKit

theorem block_cell {w : World} {p : Nat} {cs : Array Value} {t : TypeId} (h : w.heap[p]? = some (.cells cs t (0, 0))) (j : Nat) : w.cell? ⟨p, j, none⟩ = cs[j]? := cell_of_row w p j cs t (0, 0) h
theorem block_free {w : World} {p : Nat} {cs : Array Value} {t : TypeId} (h : w.heap[p]? = some (.cells cs t (0, 0))) (j : Nat) : w.frozen? ⟨p, j, none⟩ = false := frozen_of_row w p j cs t h
theorem block_lt {w : World} {p : Nat} {o : Obj} (h : w.heap[p]? = some o) : p < w.heap.size := (Array.getElem?_eq_some_iff.1 h).1

/-- A link of a chain of faults: the layer's name and the place. -/
structure Lk where
  (layer : ByteArray) (at_ : Int)
def Lk.cells (l : Lk) : List Value := [.string l.layer, .int .i64 l.at_]
/-- An error that is a chain of faults with a number at its end. -/
def Chain (lim : Nat) (w : World) : List Lk → Value → Int → Prop
  | [], v, c => v = .iface 37 (.int .i64 c)
  | l :: r, v, c => ∃ (g : Nat) (u : Value), v = .iface 124 (.pointer (some ⟨g, 0, none⟩)) ∧ g < lim ∧ w.cell? ⟨g, 0, none⟩ = some (.string l.layer) ∧ w.cell? ⟨g, 1, none⟩ = some (.int .i64 l.at_) ∧ w.cell? ⟨g, 2, none⟩ = some u ∧ Chain lim w r u c
theorem Chain.below {lim : Nat} {w w' : World} (hb : Below lim w w') : ∀ {L : List Lk} {v : Value} {c : Int}, Chain lim w L v c → Chain lim w' L v c
  | [], _, _, h => h
  | _ :: _, _, _, h => by
    obtain ⟨g, u, e, hg, c0, c1, c2, h⟩ := h
    exact ⟨g, u, e, hg, (hb.cell (p := ⟨g, 0, none⟩) hg).trans c0, (hb.cell (p := ⟨g, 1, none⟩) hg).trans c1, (hb.cell (p := ⟨g, 2, none⟩) hg).trans c2, Chain.below hb h⟩
theorem Chain.wide {lim lim' : Nat} {w : World} (hl : lim ≤ lim') : ∀ {L : List Lk} {v : Value} {c : Int}, Chain lim w L v c → Chain lim' w L v c
  | [], _, _, h => h
  | _ :: _, _, _, h => by
    obtain ⟨g, u, e, hg, c0, c1, c2, h⟩ := h
    exact ⟨g, u, e, Nat.lt_of_lt_of_le hg hl, c0, c1, c2, Chain.wide hl h⟩
/-- A refusal as plain data. -/
structure FV (lim : Nat) (w : World) (ao : Option Addr) (L : List Lk) (b off : Nat) : Prop where
  ad : 0 < L.length → ao = some ⟨b, off, none⟩
  lt : 0 < L.length → b < lim
  le : L.length ≤ 1000
  at_ : ∀ (i : Nat) (l : Lk), L[i]? = some l → w.cell? ⟨b, off + i * 2, none⟩ = some (.string l.layer) ∧ w.cell? ⟨b, off + i * 2 + 1, none⟩ = some (.int .i64 l.at_)
theorem FV.below {lim : Nat} {w w' : World} {ao : Option Addr} {L : List Lk} {b off : Nat} (h : FV lim w ao L b off) (hb : Below lim w w') : FV lim w' ao L b off :=
  ⟨h.ad, h.lt, h.le, fun i l hl => by
    have hlt := h.lt (by have := (List.getElem?_eq_some_iff.1 hl).1; omega)
    exact ⟨(hb.cell (p := ⟨b, _, none⟩) hlt).trans (h.at_ i l hl).1, (hb.cell (p := ⟨b, _, none⟩) hlt).trans (h.at_ i l hl).2⟩⟩
theorem FV.wide {lim lim' : Nat} {w : World} {ao : Option Addr} {L : List Lk} {b off : Nat} (h : FV lim w ao L b off) (hl : lim ≤ lim') : FV lim' w ao L b off := ⟨h.ad, fun e => Nat.lt_of_lt_of_le (h.lt e) hl, h.le, h.at_⟩
theorem FV.nil (lim : Nat) (w : World) (ao : Option Addr) (b off : Nat) : FV lim w ao [] b off := ⟨fun h => by simp at h, fun h => by simp at h, by simp, fun i l h => by simp at h⟩
theorem row_quietT {base size k : Nat} {e : TypeId} {w w' : World} {v : Value} {xs : List Value} (h : w.ownsRow base e size v k xs) (hg : w.grownBy w' none) : w'.ownsRow base e size v k xs := by
  refine h.kept hg ?_
  cases v.ownBlock with
  | none => exact .inl rfl
  | some g => exact .inr (by simp)
end Go.Proofs.Ytcfenjpdjogmdaa
