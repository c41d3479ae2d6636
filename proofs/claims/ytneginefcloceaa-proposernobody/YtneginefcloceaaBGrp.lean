import Derived.Test.YtneginefcloceaaBAdd
import Derived.Test.YtneginefcloceaaBCmp
namespace Go.Proofs.Ytneginefcloceaa
open Go.RowKit

/-- A configuration. -/
structure Cf where
  (f mb : Int) (delay win every beat ep em mn ms : Nat)
def Cf.cells (c : Cf) : Array Value := #[.int .i64 c.f, .int .i64 c.mb, .int .u64 (c.delay : Nat), .int .u64 (c.win : Nat), .int .u64 (c.every : Nat), .int .u64 (c.beat : Nat), .int .u64 (c.ep : Nat), .int .u64 (c.em : Nat), .int .u64 (c.mn : Nat), .int .u64 (c.ms : Nat)]
/-- The numbers of a configuration, as they came in. -/
structure Cf.In (c : Cf) : Prop where
  (f1 : -9223372036854775808 ≤ c.f) (f2 : c.f < 9223372036854775808) (m1 : -9223372036854775808 ≤ c.mb) (m2 : c.mb < 9223372036854775808) (win : c.win < 18446744073709551616) (mn : c.mn < 18446744073709551616) (ms : c.ms < 18446744073709551616)
/-- May it be? -/
structure Cf.Ok (c : Cf) : Prop where
  (f1 : 1 ≤ c.f) (f3 : c.f ≤ 3) (win1 : 1 ≤ c.win) (win8 : c.win ≤ 8) (mn1 : 1 ≤ c.mn) (mn2 : c.mn ≤ 1099511627776) (ms1 : 1 ≤ c.ms) (ms2 : c.ms ≤ 1099511627776)
/-- The reference's group, as far as the calls read it. -/
structure RefG (w : World) (p : Nat) (c : Cf) : Prop where
  (cf : w.cell? ⟨p, 0, none⟩ = some (.int .i64 c.f)) (cw : w.cell? ⟨p, 3, none⟩ = some (.int .u64 (c.win : Nat))) (cn : w.cell? ⟨p, 8, none⟩ = some (.int .u64 (c.mn : Nat))) (cs : w.cell? ⟨p, 9, none⟩ = some (.int .u64 (c.ms : Nat))) (ok : c.Ok)

def Cf.node (c : Cf) (n : Int) : Bool := decide (0 ≤ n ∧ n < 2 * c.f + 1)
end Go.Proofs.Ytneginefcloceaa
