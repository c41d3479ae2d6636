import Derived.Test.YtpdjnbpjgpdnkaaGreatDoorRows
import Derived.Test.YtpdjnbpjgpdnkaaGreatDoorX01
import Derived.WalkKit
import Derived.WalkSpells
import Derived.Outline
import Derived.Maps.AppendAt
import Derived.Deep.DeepAppendRoom
namespace Go.Proofs.YtpdjnbpjgpdnkaaGreatDoor
open Go.RowKit Crc

theorem hide {p : Prop} (h : p) : Hid p := h

def vals (B : List Nat) : List Value := B.map fun (x : Nat) => .int .u8 (x : Int)
theorem Shade.one (x : Value) (h : x.oneCell' = true) : ∀ u ∈ [x], u.oneCell' = true := by intro u hu; simp at hu; subst hu; exact h
end Go.Proofs.YtpdjnbpjgpdnkaaGreatDoor
