import Derived.RangeFuncFrom
import Derived.RangeFuncBox
import Derived.Test.YtmbclemicfffoaaBSb
import Derived.Test.YtmbclemicfffoaaNG
namespace Go.Proofs.Ytmbclemicfffoaa
open Go.RowKit Go.Shelf
attribute [local go_sem] Oper.semAt_some

def encU (x : Nat) : Value := .int .u64 (x : Int)
/-- Numbers as they lie. -/
def Us (W : World) (b off : Nat) (xs : List Nat) : Prop := ∀ (i x : Nat), xs[i]? = some x → W.cell? ⟨b, off + i, none⟩ = some (.int .u64 (x : Int))
/-- What a round keeps: all that lies below B. -/
def KpU (B : Nat) (W W' : World) : Prop := ∀ (b o : Nat) (v : Value), b < B → W.cell? ⟨b, o, none⟩ = some v → W'.cell? ⟨b, o, none⟩ = some v
theorem kpU_t {B : Nat} {A C D : World} (h : KpU B A C) (k : KpU B C D) : KpU B A D := fun b o v hb hv => k b o v hb (h b o v hb hv)
theorem kpU_b {B : Nat} {w : World} (W : World) (l : Nat) (o o' : Obj) (_ : w.heap.size ≤ l) (h : W.heap[l]? = some o) (hc : o.isCells = false) (_ : o.isWalk = false) : KpU B W (W.putObj l o') := fun _ _ _ _ hv =>
  cell_kept hv (grownBy_putObj' W l o') (fun r e => by cases e; exact ⟨o, h, hc⟩)
theorem Us.kept {B : Nat} {W W' : World} {b off : Nat} {xs : List Nat} (h : Us W b off xs) (k : KpU B W W') (hb : 0 < xs.length → b < B) : Us W' b off xs := fun i x hi =>
  k b _ _ (hb (by have := (List.getElem?_eq_some_iff.1 hi).1; omega)) (h i x hi)
theorem take_snoc {α : Type} {xs : List α} {k : Nat} {x : α} (h : xs[k]? = some x) : xs.take k ++ [x] = xs.take (k + 1) := by
  rw [List.take_add_one, h]; rfl
end Go.Proofs.Ytmbclemicfffoaa
