
namespace Go.Proofs.Ytcfenjpdjogmdaa.Crc

/-- One step of the register, no bit coming in. -/
def L (x : Nat) : Nat := (x >>> 1) ^^^ (if x % 2 = 1 then 2197175160 else 0)
def L4 (x : Nat) : Nat := L (L (L (L x)))
def L8 (x : Nat) : Nat := L4 (L4 x)

def sumFrom (s : Nat) (B : List Nat) : Nat := B.foldl (fun s c => L8 (s ^^^ c)) s
def sum (B : List Nat) : Nat := sumFrom 4294967295 B ^^^ 4294967295

/-- The bits of c that have come in, k of them: the register is L^k of x and c's bits, those above shifted down. -/
def Lk (x : Nat) : Nat → Nat
  | 0 => x
  | k + 1 => L (Lk x k)
end Go.Proofs.Ytcfenjpdjogmdaa.Crc
