import Derived.Test.YtcfenjpdjogmdaaRows
import Derived.Test.YtcfenjpdjogmdaaLT01
import Derived.WalkKit
import Derived.WalkSpells
import Derived.Outline
import Derived.Maps.AppendAt
import Derived.Deep.DeepAppendRoom
namespace Go.Proofs.Ytcfenjpdjogmdaa
open Go.RowKit Crc

theorem hide {p : Prop} (h : p) : Hid p := h

def vals (B : List Nat) : List Value := B.map fun (x : Nat) => .int .u8 (x : Int)
theorem vals_append (A B : List Nat) : vals (A ++ B) = vals A ++ vals B := by simp [vals]
theorem vals_one (c : Nat) : vals [c] = [.int .u8 (c : Int)] := rfl
theorem Shade.one (x : Value) (h : x.oneCell' = true) : ∀ u ∈ [x], u.oneCell' = true := by intro u hu; simp at hu; subst hu; exact h
end Go.Proofs.Ytcfenjpdjogmdaa
