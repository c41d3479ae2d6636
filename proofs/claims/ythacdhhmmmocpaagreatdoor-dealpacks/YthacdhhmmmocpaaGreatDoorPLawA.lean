import Derived.Test.YthacdhhmmmocpaaGreatDoorPCodec
namespace Go.Proofs.YthacdhhmmmocpaaGreatDoor
open Go.RowKit Crc

instance (s : ByteArray) : Decidable (Ascii s) := inferInstanceAs (Decidable (∀ i (h : i < s.size), (s[i]'h).toNat < 128))

/-- A field of a script. -/
structure Fl where
  K : Int
  N : Nat
  I : Int
  bo : Option Addr
  bn : Nat
  bc : Nat
  B : List Nat
  S : ByteArray
  M : Int
def Fl.cells (f : Fl) : Array Value := #[.int .i64 f.K, .int .u64 (f.N : Int), .int .i64 f.I, .slice f.bo f.bn f.bc, .string f.S, .int .i64 f.M]
/-- What is laid down of a field, if it may be. -/
def Fl.enc (f : Fl) : Option (List Nat) :=
  if f.K = 1 then some (big (f.N % 256) 1) else if f.K = 2 then some (big (f.N % 65536) 2) else if f.K = 3 then some (big (f.N % 4294967296) 4) else if f.K = 4 then some (big f.N 8) else
  if f.K = 5 then some (numB f.N) else if f.K = 6 then some (big (if f.N % 2 = 1 then 1 else 0) 1) else
  if f.K = 7 then (if f.I < 0 ∨ f.M < f.I then none else some (numB f.I.toNat)) else
  if f.K = 8 then (if f.M < (f.bn : Int) then none else some (numB f.bn ++ f.B)) else
  if f.K = 9 then (if f.M < (f.S.size : Int) ∨ ¬ Ascii f.S then none else some (numB f.S.size ++ strB f.S)) else some []
def sizeI (X : Option (List Nat)) : Int := match X with | none => -1 | some X => (X.length : Int)
/-- The field as it lies, and its bounds. -/
structure Fl.Ok (lim : Nat) (w : World) (f : Fl) : Prop where
  hN : f.N < 18446744073709551616
  hK1 : -9223372036854775808 ≤ f.K
  hK2 : f.K < 9223372036854775808
  hI1 : -9223372036854775808 ≤ f.I
  hI2 : f.I < 9223372036854775808
  hM1 : -9223372036854775808 ≤ f.M
  hM2 : f.M < 9223372036854775808
  hB : Shows lim w f.bo f.bn f.bc f.B
  hS : f.S.size ≤ 140737488355328

theorem big_length (v s : Nat) : (big v s).length = s := big_len v s s
theorem below_alloc (w : World) (o : Obj) : Below w.heap.size w (w.alloc o) := (Below.refl _ w).alloc (Nat.le_refl _) o
theorem below_drewN {B : Nat} {a w : World} {q : Nat} (h : Below B a w) : Below B a (w.drewN q) := ⟨h.os, h.tape, h.output, h.size, h.block⟩

end Go.Proofs.YthacdhhmmmocpaaGreatDoor
