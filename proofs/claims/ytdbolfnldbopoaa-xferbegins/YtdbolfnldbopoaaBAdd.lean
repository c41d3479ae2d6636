import Derived.Test.YtdbolfnldbopoaaPBase
namespace Go.Proofs.Ytdbolfnldbopoaa
open Go.RowKit

/-- a and b, at most most. -/
def addB (a b most : Nat) : Nat := if most ≤ a + b then most else a + b
end Go.Proofs.Ytdbolfnldbopoaa
