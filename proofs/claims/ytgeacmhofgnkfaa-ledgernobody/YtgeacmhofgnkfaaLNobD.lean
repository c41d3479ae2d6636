import Derived.Test.YtgeacmhofgnkfaaLNobC
import Derived.Maps.Own
import Derived.Maps.Keyed
namespace Go.Proofs.Ytgeacmhofgnkfaa
open Go.RowKit

set_option maxRecDepth 10000 in
set_option maxHeartbeats 400000 in
theorem full_one {w : World} {p : Nat} (c0 : w.cell? ⟨p, 3, none⟩ = some (.int .u64 1)) :
    Calls Try.prog 19 #[.pointer (some ⟨p, 3, none⟩), .int .i64 1] w fun e w' => e = .returned (.bool false) ∧ w' = w := by
  go_enter Try.func19, Try.ntmps19
  go_wp2
  go_ret
  exact ⟨rfl, rfl⟩

set_option maxRecDepth 10000 in
set_option maxHeartbeats 400000 in
theorem note_none {w : World} {p : Nat} (c0 : w.cell? ⟨p, 324, none⟩ = some (.slice none 0 0)) (fn : Fn) (fi ca : Array Value) :
    Calls Try.prog 39 #[.pointer (some ⟨p, 324, none⟩), .func fn fi ca] w fun e w' => e = .returned (.tuple #[]) ∧ w' = w := by
  go_enter Try.func39, Try.ntmps39
  go_wp2
  go_end0
  exact ⟨rfl, rfl⟩

/-- A look-up in a map that has nothing. -/
theorem look_none {W : World} {a : Nat} (h : W.heap[a]? = some (.map #[] 0)) (k : Int) (hk : (Lit.int .u64 k).wf = true) :
    (Instr.lookup 25 (.map (some a)) (.int .u64 k) true).run Try.prog W = .ok (.tuple #[.agg #[.int .u64 0, .int .u64 0, .int .u64 0, .int .u64 0], .bool false]) W := by
  obtain ⟨es, clock, hb, F, hsz, hD⟩ := World.ownsMap_made (H := Nat) W Try.prog 24 (fun _ => none)
  have hz : ∀ w, (zeroValue 51).run Try.prog w = .ok (.agg #[.int .u64 0, .int .u64 0, .int .u64 0, .int .u64 0]) w := fun w => by kernel_rfl
  have hb0 := heap_new W (.map #[] 0)
  rw [hb] at hb0
  cases hb0
  rcases Maps.fit_look true (Maps.int_keyed Try.underlying24) Try.underlying25 (hz W) h F (Maps.keyOf_int_mk Try.underlying24 hk) with ⟨hrun, _⟩ | ⟨e0, y, hm, _⟩
  · simpa using hrun
  · simp at hm
end Go.Proofs.Ytgeacmhofgnkfaa
