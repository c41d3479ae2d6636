import Derived.Test.YtdbolfnldbopoaaBAdd
import Derived.Test.YtdbolfnldbopoaaBCmp
namespace Go.Proofs.Ytdbolfnldbopoaa
open Go.RowKit

/-- A configuration. -/
structure Cf where
  (f mb : Int) (delay win every beat ep em mn ms : Nat)
def Cf.cells (c : Cf) : Array Value := #[.int .i64 c.f, .int .i64 c.mb, .int .u64 (c.delay : Nat), .int .u64 (c.win : Nat), .int .u64 (c.every : Nat), .int .u64 (c.beat : Nat), .int .u64 (c.ep : Nat), .int .u64 (c.em : Nat), .int .u64 (c.mn : Nat), .int .u64 (c.ms : Nat)]
/-- The numbers of a configuration, as they came in. -/
structure Cf.In (c : Cf) : Prop where
  (f1 : -9223372036854775808 ≤ c.f) (f2 : c.f < 9223372036854775808) (m1 : -9223372036854775808 ≤ c.mb) (m2 : c.mb < 9223372036854775808) (win : c.win < 18446744073709551616) (mn : c.mn < 18446744073709551616) (ms : c.ms < 18446744073709551616)
/-- May it be? -/
structure Cf.Ok (c : Cf) : Prop where
  (f1 : 1 ≤ c.f) (f3 : c.f ≤ 3) (win1 : 1 ≤ c.win) (win8 : c.win ≤ 8) (mn1 : 1 ≤ c.mn) (mn2 : c.mn ≤ 1099511627776) (ms1 : 1 ≤ c.ms) (ms2 : c.ms ≤ 1099511627776)
/-- The reference's group, as far as the calls read it. -/
structure RefG (w : World) (p : Nat) (c : Cf) : Prop where
  (cf : w.cell? ⟨p, 0, none⟩ = some (.int .i64 c.f)) (cw : w.cell? ⟨p, 3, none⟩ = some (.int .u64 (c.win : Nat))) (cn : w.cell? ⟨p, 8, none⟩ = some (.int .u64 (c.mn : Nat))) (cs : w.cell? ⟨p, 9, none⟩ = some (.int .u64 (c.ms : Nat))) (ok : c.Ok)

set_option maxRecDepth 10000 in
set_option maxHeartbeats 400000 in
theorem refNodes {w : World} {p : Nat} {c : Cf} (h : RefG w p c) :
    Calls Try.prog 41 #[.pointer (some ⟨p, 0, none⟩)] w fun e w' => e = .returned (.int .i64 (2 * c.f + 1)) ∧ w' = w := by
  have h1 := h.cf
  have g1 := h.ok.f1
  have g3 := h.ok.f3
  clear h
  generalize c.f = f at *
  go_enter Try.func41, Try.ntmps41
  go_wp2
  go_ret
  exact ⟨rfl, rfl⟩
def Cf.node (c : Cf) (n : Int) : Bool := decide (0 ≤ n ∧ n < 2 * c.f + 1)
set_option maxRecDepth 10000 in
set_option maxHeartbeats 400000 in
theorem refNode {w : World} {p : Nat} {c : Cf} (n : Int) (h : RefG w p c) :
    Calls Try.prog 31 #[.pointer (some ⟨p, 0, none⟩), .int .i64 n] w fun e w' => e = .returned (.bool (c.node n)) ∧ w' = w := by
  have H := hide (refNodes h)
  clear h
  by_cases g : n ≥ 0
  · have hv : Hid (c.node n = decide (n < 2 * c.f + 1)) := by show c.node n = decide (n < 2 * c.f + 1); simp [Cf.node, g]
    generalize c.node n = v at *
    generalize 2 * c.f + 1 = k at *
    go_enter Try.func31, Try.ntmps31
    go_wp2_with fail
    refine H.out.mono ?_
    rintro e w1 ⟨rfl, rfl⟩
    go_wp2_with fail
    go_ret
    exact ⟨by rw [hv.out]; rfl, rfl⟩
  · have hv : Hid (c.node n = false) := by show c.node n = false; simp [Cf.node]; omega
    generalize c.node n = v at *
    go_enter Try.func31, Try.ntmps31
    go_wp2
    go_ret
    exact ⟨by rw [hv.out]; rfl, rfl⟩
end Go.Proofs.Ytdbolfnldbopoaa
