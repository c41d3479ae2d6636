import Derived.Test.YtdbolfnldbopoaaBPg
import Derived.Test.YtdbolfnldbopoaaBAs
namespace Go.Proofs.Ytdbolfnldbopoaa
open Go.RowKit

set_option maxRecDepth 10000 in
set_option maxHeartbeats 400000 in
theorem nodes_dead {w : World} {a : Option Addr} (h : Dead w a) :
    Calls Try.prog 39 #[.pointer a] w fun e w' => e = .returned (.int .i64 0) ∧ w' = w := by
  have HM := hide (made_dead h)
  clear h
  go_enter Try.func39, Try.ntmps39
  go_wp2_with fail
  refine HM.out.mono ?_
  rintro e w1 ⟨rfl, rfl⟩
  go_wp2
  go_ret
  exact ⟨rfl, rfl⟩
set_option maxRecDepth 10000 in
set_option maxHeartbeats 400000 in
theorem nodes_live {w : World} {a : Option Addr} {c : Cf} (h : PG w a c) (hk : c.Ok) :
    Calls Try.prog 39 #[.pointer a] w fun e w' => e = .returned (.int .i64 (2 * c.f + 1)) ∧ w' = w := by
  have HM := hide (made_live h hk)
  obtain ⟨p, rfl, _, hc, -, -, -⟩ := h.cells
  have h1 := hk.f1
  have h3 := hk.f3
  clear h hk
  generalize c.f = f at *
  go_enter Try.func39, Try.ntmps39
  go_wp2_with fail
  refine HM.out.mono ?_
  rintro e w1 ⟨rfl, rfl⟩
  go_wp2
  go_ret
  exact ⟨rfl, rfl⟩
set_option maxRecDepth 10000 in
set_option maxHeartbeats 400000 in
theorem node_dead {w : World} {a : Option Addr} (n : Int) (h : Dead w a) :
    Calls Try.prog 28 #[.pointer a, .int .i64 n] w fun e w' => e = .returned (.bool false) ∧ w' = w := by
  have HM := hide (nodes_dead h)
  clear h
  by_cases g : n ≥ 0
  · go_enter Try.func28, Try.ntmps28
    go_wp2_with fail
    refine HM.out.mono ?_
    rintro e w1 ⟨rfl, rfl⟩
    go_wp2
    go_ret
    exact ⟨by simp; omega, rfl⟩
  · go_enter Try.func28, Try.ntmps28
    go_wp2
    go_ret
    exact ⟨rfl, rfl⟩
set_option maxRecDepth 10000 in
set_option maxHeartbeats 400000 in
theorem node_live {w : World} {a : Option Addr} {c : Cf} (n : Int) (h : PG w a c) (hk : c.Ok) :
    Calls Try.prog 28 #[.pointer a, .int .i64 n] w fun e w' => e = .returned (.bool (c.node n)) ∧ w' = w := by
  have H := hide (nodes_live h hk)
  clear h
  by_cases g : n ≥ 0
  · have hv : Hid (c.node n = decide (n < 2 * c.f + 1)) := by show c.node n = decide (n < 2 * c.f + 1); simp [Cf.node, g]
    generalize c.node n = v at *
    generalize 2 * c.f + 1 = k at *
    go_enter Try.func28, Try.ntmps28
    go_wp2_with fail
    refine H.out.mono ?_
    rintro e w1 ⟨rfl, rfl⟩
    go_wp2_with fail
    go_ret
    exact ⟨by rw [hv.out]; rfl, rfl⟩
  · have hv : Hid (c.node n = false) := by show c.node n = false; simp [Cf.node]; omega
    generalize c.node n = v at *
    go_enter Try.func28, Try.ntmps28
    go_wp2
    go_ret
    exact ⟨by rw [hv.out]; rfl, rfl⟩
theorem bal_zero (n m : Int) (w : World) : (binOp BinOp.eql 143 (.agg #[.int .u64 n, .int .i64 m]) (.agg #[.int .u64 0, .int .i64 0])).run Try.prog w = .ok (.bool (decide (n = 0) && decide (m = 0))) w := bal_eq n 0 m 0 w
end Go.Proofs.Ytdbolfnldbopoaa
