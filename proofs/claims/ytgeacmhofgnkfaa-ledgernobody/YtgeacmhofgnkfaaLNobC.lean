import Derived.Test.YtgeacmhofgnkfaaLNobB
import Derived.Carry
namespace Go.Proofs.Ytgeacmhofgnkfaa
open Go.RowKit

/-- A ledger's cells, just made, over its two maps. -/
noncomputable def led (a b : Nat) : Array Value :=
  Array.foldl (fun cs x => cs.setIfInBounds (3 + x.snd) x.fst) ((Try.zeroCells37.setIfInBounds 1 (.map (some a))).setIfInBounds 2 (.map (some b))) (Try.zeroCells31.setIfInBounds 0 (.int .u64 1)).zipIdx 0 321
/-- Where a made ledger lies. -/
structure NewL (w : World) (a b p : Nat) : Prop where
  ma : w.heap[a]? = some (.map #[] 0)
  mb : w.heap[b]? = some (.map #[] 0)
  lp : w.heap[p]? = some (.cells (led a b) 37 (0, 0))

theorem heap_new (w : World) (o : Obj) : (w.alloc o).heap[w.heap.size]? = some o := by simp [World.alloc, -World.alloc_eq]

set_option maxRecDepth 10000 in
set_option maxHeartbeats 800000 in
theorem blank_any (w : World) :
    Calls Try.prog 16 #[] w fun e w' => e = .returned (.pointer (some ⟨w.heap.size + 2, 0, none⟩)) ∧ w' = ((w.alloc (.map #[] 0)).alloc (.map #[] 0)).alloc (.cells (led w.heap.size (w.heap.size + 1)) 37) := by
  have m1 := run_makeMap (P := Try.prog) 25 w
  have m2 := fun o => run_makeMap (P := Try.prog) 26 (w.alloc o)
  go_enter Try.func16, Try.ntmps16
  go_wp2
  go_ret
  exact ⟨rfl, rfl⟩

theorem newL_blank (w : World) : NewL (((w.alloc (.map #[] 0)).alloc (.map #[] 0)).alloc (.cells (led w.heap.size (w.heap.size + 1)) 37)) w.heap.size (w.heap.size + 1) (w.heap.size + 2) := by
  suffices h : ∀ o3, (((w.alloc (.map #[] 0)).alloc (.map #[] 0)).alloc o3).heap[w.heap.size]? = some (.map #[] 0) ∧ (((w.alloc (.map #[] 0)).alloc (.map #[] 0)).alloc o3).heap[w.heap.size + 1]? = some (.map #[] 0) ∧ (((w.alloc (.map #[] 0)).alloc (.map #[] 0)).alloc o3).heap[w.heap.size + 2]? = some o3 from ⟨(h _).1, (h _).2.1, (h _).2.2⟩
  intro o3
  have h1 := heap_new w (.map #[] 0)
  have h2 := heap_new (w.alloc (.map #[] 0)) (.map #[] 0)
  have h3 := heap_new ((w.alloc (.map #[] 0)).alloc (.map #[] 0)) o3
  have e1 : (w.alloc (.map #[] 0)).heap.size = w.heap.size + 1 := by simp
  have e2 : ((w.alloc (.map #[] 0)).alloc (.map #[] 0)).heap.size = w.heap.size + 2 := by simp
  rw [e1] at h2
  rw [e2] at h3
  exact ⟨((World.grownBy_alloc _ o3 none).block _ (by omega) (by simp)).trans (((World.grownBy_alloc _ _ none).block _ (by omega) (by simp)).trans h1), ((World.grownBy_alloc _ o3 none).block _ (by omega) (by simp)).trans h2, h3⟩

set_option maxRecDepth 10000 in
set_option maxHeartbeats 800000 in
theorem new_nil (w : World) :
    Calls Try.prog 4 #[.slice none 0 0] w fun e w' => e = .returned (.tuple #[.pointer (some ⟨w.heap.size + 2, 0, none⟩), .nilIface]) ∧ w' = ((w.alloc (.map #[] 0)).alloc (.map #[] 0)).alloc (.cells (led w.heap.size (w.heap.size + 1)) 37) := by
  have HB := hide (blank_any w)
  generalize ((w.alloc (.map #[] 0)).alloc (.map #[] 0)).alloc (.cells (led w.heap.size (w.heap.size + 1)) 37) = W at *
  go_enter Try.func4, Try.ntmps4
  go_wp2_with fail
  refine HB.out.mono ?_
  rintro e w1 ⟨rfl, rfl⟩
  go_wp2
  go_loopw [15] (fun i wr => i = .int .i64 0 ∧ Hid (wr = w1)) (fun _ _ => 0)
  case atStart => exact ⟨rfl, rfl⟩
  case round =>
    obtain ⟨rfl, HW⟩ := hrel
    go_wp2
    go_ret2
    exact ⟨rfl, HW.out⟩

theorem led_0 (a b : Nat) : (led a b)[0]? = some (.int .u64 0) := by kernel_rfl
theorem led_1 (a b : Nat) : (led a b)[1]? = some (.map (some a)) := by kernel_rfl
theorem led_3 (a b : Nat) : (led a b)[3]? = some (.int .u64 1) := by kernel_rfl
theorem led_324 (a b : Nat) : (led a b)[324]? = some (.slice none 0 0) := by kernel_rfl
end Go.Proofs.Ytgeacmhofgnkfaa
