import Derived.RangeFuncNested
import Derived.RangeFuncBound
import Derived.RangeFuncCalls
import Derived.RangeFuncLeaves
import Derived.Shelf.Abstract
import Derived.Shelf.RegionOpen
import Derived.WalkKit
import Derived.OwnWalkIn
import Derived.TacticsInMore
import Derived.LoopNIn
import Derived.LoopIn
import Derived.Test.YtneginefcloceaaBSa
import Derived.Deep.RegionHeld
namespace Go.Proofs.Ytneginefcloceaa
open Go.RowKit Go.Shelf
attribute [local go_sem] Oper.semAt_some

/-- The members below k. -/
def memU (s k : Nat) : List Int := ((List.range k).filter (fun i => s.testBit i)).map (fun (i : Nat) => (i : Int))
theorem memU_succ (s k : Nat) : memU s (k + 1) = memU s k ++ (if s.testBit k = true then [(k : Int)] else []) := by
  unfold memU
  rw [List.range_succ, List.filter_append, List.map_append]
  cases h : s.testBit k <;> simp [h]
theorem memU_pre (s : Nat) {k : Nat} : ∀ {n : Nat}, k ≤ n → memU s k <+: memU s n
  | 0, h => by rw [show k = 0 by omega]; exact List.prefix_refl _
  | n + 1, h => by
    by_cases e : k = n + 1
    · rw [e]; exact List.prefix_refl _
    · rw [memU_succ]; exact (memU_pre s (n := n) (by omega)).trans (List.prefix_append _ _)
theorem memU_lt (s : Nat) {k : Nat} (hk : k < 32) (ht : s.testBit k = true) : (memU s k).length < (memU s 32).length := by
  have h1 := (memU_pre s (k := k + 1) (n := 32) (by omega)).length_le
  rw [memU_succ, if_pos ht, List.length_append, List.length_singleton] at h1
  omega
theorem fn_nil (l : Nat) (w : World) : (binOp BinOp.eql 104 (.func (.yield l) #[] #[]) .nilFunc).run Try.prog w = .ok (.bool false) w := by kernel_rfl
/-- What a round keeps: the captured set. -/
def KpB (Bn : Nat) (W W' : World) : Prop := ∀ v, W.cell? ⟨Bn, 0, none⟩ = some v → W'.cell? ⟨Bn, 0, none⟩ = some v
theorem kpB_t {Bn : Nat} {A B C : World} (h : KpB Bn A B) (k : KpB Bn B C) : KpB Bn A C := fun v hv => k v (h v hv)
theorem kpB_b {Bn : Nat} {w : World} (W : World) (l : Nat) (o o' : Obj) (_ : w.heap.size ≤ l) (h : W.heap[l]? = some o) (hc : o.isCells = false) (_ : o.isWalk = false) : KpB Bn W (W.putObj l o') := fun _ hv =>
  cell_kept hv (grownBy_putObj' W l o') (fun r e => by cases e; exact ⟨o, h, hc⟩)
theorem cell_alloc_l' {W : World} {a : Addr} {v : Value} (o : Obj) (h : W.cell? a = some v) : (W.alloc o).cell? a = some v := by
  rw [World.cell?_alloc_some _ _ _ (by rw [h]; rfl)]; exact h
theorem frozen_alloc_l' {W : World} {a : Addr} {v : Value} {b : Bool} (o : Obj) (h : W.cell? a = some v) (hf : W.frozen? a = b) : (W.alloc o).frozen? a = b :=
  (World.frozen?_of_block (Below.heap_alloc W o a.block (World.block_lt_of_cell? W a h))).trans hf
/-- How many are in the set. -/
def countB (s : Nat) : Nat := (memU s 32).length
theorem box_cell {W : World} {B : Nat} {v : Value} {t : TypeId} (h : W.heap[B]? = some (.cells #[v] t (0, 0))) : W.cell? ⟨B, 0, none⟩ = some v ∧ W.frozen? ⟨B, 0, none⟩ = false := by
  constructor <;> simp [World.cell?, World.frozen?, h]
theorem box_new (W : World) (v : Value) (t : TypeId) : (W.alloc (.cells #[v] t)).cell? ⟨W.heap.size, 0, none⟩ = some v ∧ (W.alloc (.cells #[v] t)).frozen? ⟨W.heap.size, 0, none⟩ = false :=
  box_cell (World.alloc_heap_new W _)
theorem memU_len (s k : Nat) : (memU s k).length ≤ k := by
  unfold memU
  rw [List.length_map]
  exact Nat.le_trans (List.length_filter_le _ _) (by simp)
/-- The least that is in both, or -1. -/
def crossB (s : Nat) : Int := match memU s 32 with
  | [] => -1
  | x :: _ => x
end Go.Proofs.Ytneginefcloceaa
