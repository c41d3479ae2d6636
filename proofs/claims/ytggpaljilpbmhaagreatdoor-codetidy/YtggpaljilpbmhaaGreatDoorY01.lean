
namespace Go.Proofs.YtggpaljilpbmhaaGreatDoor.Crc

/-- One step of the register, no bit coming in. -/
def L (x : Nat) : Nat := (x >>> 1) ^^^ (if x % 2 = 1 then 2197175160 else 0)
def L4 (x : Nat) : Nat := L (L (L (L x)))
def L8 (x : Nat) : Nat := L4 (L4 x)

def tab : List Nat := [0, 274646895, 549293790, 820201905, 1098587580, 1361435347, 1640403810, 1905808397, 2197175160, 2460548119, 2722870694, 2987750089, 3280807620, 3553878443, 3811616794, 4084100981]

/-- The program's half step: by the table. -/
def half (s : Nat) : Nat := (s >>> 4) ^^^ tab.getD (s &&& 15) 0
def sumFrom (s : Nat) (B : List Nat) : Nat := B.foldl (fun s c => L8 (s ^^^ c)) s
def sum (B : List Nat) : Nat := sumFrom 4294967295 B ^^^ 4294967295

/-- The bits of c that have come in, k of them: the register is L^k of x and c's bits, those above shifted down. -/
def Lk (x : Nat) : Nat → Nat
 | 0 => x
 | k + 1 => L (Lk x k)
end Go.Proofs.YtggpaljilpbmhaaGreatDoor.Crc
