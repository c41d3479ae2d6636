import Derived.Test.YtggpaljilpbmhaaGreatDoorW41
import Derived.Deep.MidRow
namespace Go.Proofs.YtggpaljilpbmhaaGreatDoor
open Go.RowKit

/-- It lies at that block. -/
def LiesB (W : World) (p : Nat) (cs : List Value) (t : TypeId) : Prop := W.heap[p]? = some (.cells cs.toArray t (0, 0))
theorem LiesB.kept {W W' : World} {p : Nat} {cs : List Value} {t : TypeId} (h : LiesB W p cs t) (hb : Below W.heap.size W W') : LiesB W' p cs t := (hb.block _ (block_lt h)).trans h

theorem setCells_blockB {t : TypeId} (b : Nat) : ∀ (vs : List Value) (o : Nat) (w : World) (C : Array Value), w.heap[b]? = some (.cells C t (0, 0)) → ∃ C' : Array Value, (w.setCells b o vs).heap[b]? = some (.cells C' t (0, 0)) ∧ C'.size = C.size
 | [], _, w, C, h => ⟨C, h, rfl⟩
 | v :: r, o, w, C, h => by
  rw [World.setCells]
  have h1 := heap_setCell_same w b o _ _ v h
  obtain ⟨C', h2, h3⟩ := setCells_blockB b r (o + 1) _ _ h1
  exact ⟨C', h2, by rw [h3]; simp⟩
theorem block_of_rangeB {W : World} {b : Nat} {C : Array Value} {t : TypeId} {cs : List Value} (hb : W.heap[b]? = some (.cells C t (0, 0))) (hs : C.size = cs.length) (hr : W.rangeAt b 0 cs) : W.heap[b]? = some (.cells cs.toArray t (0, 0)) := by
 have e : C = cs.toArray := by
  refine Array.ext (by simpa using hs) (fun i h1 h2 => ?_)
  have h3 := hr i _ (List.getElem?_eq_getElem (by simpa using h2))
  rw [Nat.zero_add, block_cell hb i, Array.getElem?_eq_getElem h1] at h3
  simpa using h3
 rw [← e]
 exact hb
theorem thereB {w : World} {Z : Array Value} {t : TypeId} {b n : Nat} (hb : w.heap[b]? = some (.cells Z t (0, 0))) (h : n ≤ Z.size) : w.there b 0 n := fun j hj => by
 rw [Nat.zero_add, block_cell hb j]
 exact ⟨by rw [Array.getElem?_eq_getElem (by omega)]; rfl, block_free hb j⟩
/-- A long store into a box that is there. -/
theorem wpList_store_boxB {P : Program} {ops : Array Oper} {rest : List Oper} {op : Oper} {a : Act} {w : World} {Z : Array Value} {t : TypeId} {Q : Exit → Act → World → Prop} (hgd : op.guard = none) (ty : TypeId) (x y : Operand) (ho : op.op = .store ty x y)
  (p : Nat) (hb : w.heap[p]? = some (.cells Z t (0, 0))) (cs : List Value) (hx : a.eval x = .pointer (some ⟨p, 0, none⟩)) (hy : a.eval y = .agg cs.toArray)
  (hz : cs.length = Z.size) (hi : (P.info? ty).map (·.size) = some cs.length) (h1 : ∀ v ∈ cs, v.oneCell' = true)
  (h : ∀ W, w.grownBy W (some p) → W.heap[p]? = some (.cells cs.toArray t (0, 0)) → wpList P ops Q rest (a.put op.dst undef) W) : wpList P ops Q (op :: rest) a w := by
 have ht : w.there p 0 cs.length := thereB hb (by omega)
 refine wpList_store_mid hgd ty x y ho p 0 cs.toArray hx hy (by simpa using ht) (by simpa using hi) (all_oneCell_toArray h1) ?_
 have g := grown_setCells p cs.toArray.toList 0 w
 obtain ⟨C', h2, h3⟩ := setCells_blockB p cs.toArray.toList 0 w Z hb
 exact h _ g (block_of_rangeB h2 (by omega) (World.rangeAt_setCells_same _ _ _ _ ht))
end Go.Proofs.YtggpaljilpbmhaaGreatDoor
