import Derived.RangeFuncFrom
import Derived.RangeFuncBox
import Derived.Test.YtcfenjpdjogmdaaLT04
import Derived.Test.YtcfenjpdjogmdaaLT16
namespace Go.Proofs.Ytcfenjpdjogmdaa
open Go.RowKit Go.Shelf
attribute [local go_sem] Oper.semAt_some

def encU (x : Nat) : Value := .int .u64 (x : Int)
/-- Numbers as they lie. -/
def Us (W : World) (b off : Nat) (xs : List Nat) : Prop := ∀ (i x : Nat), xs[i]? = some x → W.cell? ⟨b, off + i, none⟩ = some (.int .u64 (x : Int))
/-- What a round keeps: all that lies below B. -/
def KpU (B : Nat) (W W' : World) : Prop := ∀ (b o : Nat) (v : Value), b < B → W.cell? ⟨b, o, none⟩ = some v → W'.cell? ⟨b, o, none⟩ = some v
theorem Us.kept {B : Nat} {W W' : World} {b off : Nat} {xs : List Nat} (h : Us W b off xs) (k : KpU B W W') (hb : 0 < xs.length → b < B) : Us W' b off xs := fun i x hi =>
  k b _ _ (hb (by have := (List.getElem?_eq_some_iff.1 hi).1; omega)) (h i x hi)
end Go.Proofs.Ytcfenjpdjogmdaa
