
namespace Go.Proofs.YtggpaljilpbmhaaGreatDoor.Crc

/-- One step of the register, no bit coming in. -/
def L (x : Nat) : Nat := (x >>> 1) ^^^ (if x % 2 = 1 then 2197175160 else 0)
def L4 (x : Nat) : Nat := L (L (L (L x)))
def L8 (x : Nat) : Nat := L4 (L4 x)

def tab : List Nat := [0, 274646895, 549293790, 820201905, 1098587580, 1361435347, 1640403810, 1905808397, 2197175160, 2460548119, 2722870694, 2987750089, 3280807620, 3553878443, 3811616794, 4084100981]

def sumFrom (s : Nat) (B : List Nat) : Nat := B.foldl (fun s c => L8 (s ^^^ c)) s
def sum (B : List Nat) : Nat := sumFrom 4294967295 B ^^^ 4294967295

/-- The bits of c that have come in, k of them: the register is L^k of x and c's bits, those above shifted down. -/
def Lk (x : Nat) : Nat → Nat
 | 0 => x
 | k + 1 => L (Lk x k)
theorem getD_lt (B : List Nat) (hB : ∀ x ∈ B, x < 256) (k : Nat) : B.getD k 0 < 256 := by
 rw [List.getD_eq_getElem?_getD]
 cases h : B[k]? with
 | none => simp
 | some v => exact hB v (List.mem_of_getElem? h)

theorem take_snoc (B : List Nat) (k : Nat) (h : k < B.length) : B.take (k + 1) = B.take k ++ [B.getD k 0] := by
 rw [List.take_succ_eq_append_getElem h]; simp [h]

end Go.Proofs.YtggpaljilpbmhaaGreatDoor.Crc
