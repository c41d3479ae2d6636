import Derived.Test.YtmbclemicfffoaaNK
import Derived.Test.YtmbclemicfffoaaLeH
namespace Go.Proofs.Ytmbclemicfffoaa
open Go.RowKit

theorem infoHold : (Try.prog.info? 86).map (fun i => (i.zero, i.size, i.bytes)) = some (some (.agg #[.int .u64 0, .int .u64 0, .int .u64 0]), 3, 24) := by kernel_rfl
theorem own_emptyA {W : World} {a : Nat} (h : W.heap[a]? = some (.map #[] 0)) : W.ownsMap Try.prog 28 RV a 0 (.map []) :=
  ⟨#[], 0, h, ⟨by simp, MapKept.stamped_empty 0, by simp⟩, Nat.le_refl _, rfl⟩
theorem len_none {W : World} {b : Nat} (h : W.heap[b]? = some (.map #[] 0)) (ty : TypeId) : (Builtin.len_ #[61] ty #[.map (some b)]).run Try.prog W = .ok (.int .i64 0) W := by
  have hown : W.ownsMap Try.prog 28 RV b 0 (.map []) := own_emptyA h
  exact hown.len Try.underlying61 ty
set_option maxRecDepth 10000 in
set_option maxHeartbeats 800000 in
theorem risingH {w : World} {b : Nat} (h : w.heap[b]? = some (.map #[] 0)) : Calls Try.prog 30 #[.map (some b)] w fun e w' => e = .returned (.slice none 0 0) ∧ w' = w := by
  have hl := len_none h 3
  clear h
  go_enter Try.func30, Try.ntmps30
  go_wp2
  go_ret
  exact ⟨rfl, rfl⟩
set_option maxRecDepth 10000 in
set_option maxHeartbeats 800000 in
theorem linesAtA (w : World) : Calls Try.prog 40 #[.int .u64 1] w fun e w' => e = .returned (.int .i64 0) ∧ w' = w := by
  go_enter Try.func40, Try.ntmps40
  go_wp2
  go_ret
  exact ⟨rfl, rfl⟩
set_option maxRecDepth 10000 in
set_option maxHeartbeats 800000 in
theorem linesA {w : World} {p : Nat} (h : w.cell? ⟨p, 3, none⟩ = some (.int .u64 1)) (hp : p < w.heap.size) : Calls Try.prog 31 #[.pointer (some ⟨p, 3, none⟩)] w fun e w' => e = .returned (.slice none 0 0) ∧ w' = w := by
  have HL := hide (linesAtA w)
  go_enter Try.func31, Try.ntmps31
  go_wp2_with fail
  refine HL.out.mono ?_
  rintro e w1 ⟨rfl, rfl⟩
  go_wp2
  go_ret
  exact ⟨rfl, rfl⟩
end Go.Proofs.Ytmbclemicfffoaa
