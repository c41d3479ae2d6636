import Derived.Test.YtgaalaoflaklgaaGreatM0
import Derived.Deep.RegionHeld
namespace Go.Proofs.YtgaalaoflaklgaaGreat
open Go.RowKit Crc

/-- A method of whatever lies in an interface, as a value. -/
def mv (name : String) (r : Value) : Value := .func (.method name) #[r] #[]
theorem alloc_here (w : World) (o : Obj) : (w.alloc o).drew.heap[w.heap.size]? = some o := by
  show (w.alloc o).heap[w.heap.size]? = some o
  simp [World.alloc, -World.alloc_eq]
theorem below_here (w : World) (o : Obj) : Below w.heap.size w (w.alloc o).drew := by
  have h := below_alloc1 w o
  exact ⟨h.os, h.tape, h.output, h.size, h.block⟩
theorem mk_func (fn : Fn) (first cap : Array Value) (w : World) : (Instr.makeFunc fn first cap).run Tryz.prog w = .ok (.func fn first cap) w := rfl

set_option maxRecDepth 10000 in
set_option maxHeartbeats 800000 in
theorem recList_1 (k : Int) (hk : k = 1 ∨ k = 3) (t : TypeId) (a : Addr) (w : World) :
    Calls Tryz.prog 31 #[.int .i64 k, .iface t (.pointer (some a))] w fun e w' => e = .returned (.slice (some ⟨w.heap.size, 0, none⟩) 1 1) ∧ w' = w.alloc (.cells #[mv "quorum/wire.ballot" (.iface t (.pointer (some a)))] 1) := by
  have hmf := mk_func
  rcases hk with rfl | rfl
  · go_enter Tryz.func31, Tryz.ntmps31
    go_wp2
    go_ret
    exact ⟨rfl, rfl⟩
  · go_enter Tryz.func31, Tryz.ntmps31
    go_wp2
    go_ret
    exact ⟨rfl, rfl⟩

set_option maxRecDepth 10000 in
set_option maxHeartbeats 800000 in
theorem recList_4 (t : TypeId) (a : Addr) (w : World) :
    Calls Tryz.prog 31 #[.int .i64 4, .iface t (.pointer (some a))] w fun e w' => e = .returned (.slice (some ⟨w.heap.size, 0, none⟩) 1 1) ∧ w' = w.alloc (.cells #[mv "quorum/wire.slot" (.iface t (.pointer (some a)))] 1) := by
  have hmf := mk_func
  go_enter Tryz.func31, Tryz.ntmps31
  go_wp2
  go_ret
  exact ⟨rfl, rfl⟩

set_option maxRecDepth 10000 in
set_option maxHeartbeats 800000 in
theorem recList_0 (k : Int) (hk : k < 1 ∨ 5 < k) (t : TypeId) (a : Addr) (w : World) :
    Calls Tryz.prog 31 #[.int .i64 k, .iface t (.pointer (some a))] w fun e w' => e = .returned (.slice none 0 0) ∧ w' = w := by
  have h1 : (k == 1) = false := by simp; omega
  have h2 : (k == 2) = false := by simp; omega
  have h3 : (k == 3) = false := by simp; omega
  have h4 : (k == 4) = false := by simp; omega
  have h5 : (k == 5) = false := by simp; omega
  go_enter Tryz.func31, Tryz.ntmps31
  go_wp2
  go_ret
  exact ⟨rfl, rfl⟩

set_option maxRecDepth 10000 in
set_option maxHeartbeats 800000 in
theorem recList_5 (t : TypeId) (a : Addr) (w : World) :
    Calls Tryz.prog 31 #[.int .i64 5, .iface t (.pointer (some a))] w fun e w' => e = .returned (.slice (some ⟨w.heap.size, 0, none⟩) 2 2) ∧ w'.heap[w.heap.size]? = some (.cells #[mv "quorum/wire.slot" (.iface t (.pointer (some a))), mv "quorum/wire.snapshot" (.iface t (.pointer (some a)))] 1 (0, 0)) ∧ Below w.heap.size w w' := by
  have hmf := mk_func
  go_enter Tryz.func31, Tryz.ntmps31
  go_wp2_with fail
  go_region_held (fun _ => True) (go_keep) (fail)
  all_goals
    go_wp2
    go_ret
    exact ⟨rfl, alloc_here w _, below_here w _⟩

set_option maxRecDepth 10000 in
set_option maxHeartbeats 800000 in
theorem recList_2 (t : TypeId) (a : Addr) (w : World) :
    Calls Tryz.prog 31 #[.int .i64 2, .iface t (.pointer (some a))] w fun e w' => e = .returned (.slice (some ⟨w.heap.size, 0, none⟩) 3 3) ∧ w'.heap[w.heap.size]? = some (.cells #[mv "quorum/wire.ballot" (.iface t (.pointer (some a))), mv "quorum/wire.slot" (.iface t (.pointer (some a))), mv "quorum/wire.batch" (.iface t (.pointer (some a)))] 1 (0, 0)) ∧ Below w.heap.size w w' := by
  have hmf := mk_func
  go_enter Tryz.func31, Tryz.ntmps31
  go_wp2_with fail
  go_region_held (fun _ => True) (go_keep) (fail)
  all_goals
    go_wp2
    go_ret
    exact ⟨rfl, alloc_here w _, below_here w _⟩
end Go.Proofs.YtgaalaoflaklgaaGreat
