import Derived.Test.YtpdjnbpjgpdnkaaGreatDoorX27
import Derived.Test.YtpdjnbpjgpdnkaaGreatDoorX34
namespace Go.Proofs.YtpdjnbpjgpdnkaaGreatDoor
open Go.RowKit

end Go.Proofs.YtpdjnbpjgpdnkaaGreatDoor
namespace Go.Proofs.YtpdjnbpjgpdnkaaGreatDoor
open Go.RowKit

/-- The long division: the upper bits of N are q times c and a rest. -/
structure Sd (N c : Int) (j : Nat) (q r : Int) : Prop where
 e : N / 2 ^ j = q * c + r
 r0 : 0 ≤ r
 r1 : r < c
 q0 : 0 ≤ q
theorem pow_pos2 (j : Nat) : (0 : Int) < 2 ^ j := by
 induction j with
 | zero => decide
 | succ j ih => rw [Int.pow_succ]; omega
theorem half2 (N : Int) (j : Nat) : N / 2 ^ j = N / 2 ^ (j + 1) * 2 + N / 2 ^ j % 2 := by
 rw [Int.pow_succ, ← Int.ediv_ediv_of_nonneg (Int.le_of_lt (pow_pos2 j))]
 omega
theorem Sd.next {N c : Int} {j : Nat} {q r b : Int} (h : Sd N c (j + 1) q r) (hb : N / 2 ^ j % 2 = b) :
  (c ≤ r * 2 + b → Sd N c j (q * 2 + 1) (r * 2 + b - c)) ∧ (r * 2 + b < c → Sd N c j (q * 2) (r * 2 + b)) := by
 have e := half2 N j
 rw [h.e, hb] at e
 have h0 := h.r0
 have h1 := h.r1
 have h2 := h.q0
 have b01 : 0 ≤ b ∧ b ≤ 1 := by omega
 have m1 : q * 2 * c = q * c * 2 := by rw [Int.mul_assoc, Int.mul_comm 2, ← Int.mul_assoc]
 refine ⟨fun g => ⟨?_, by omega, by omega, by omega⟩, fun g => ⟨?_, by omega, g, by omega⟩⟩
 ·have m2 : (q * 2 + 1) * c = q * c * 2 + c := by rw [Int.add_mul, m1, Int.one_mul]
  rw [e, m2]
  omega
 ·rw [e, m1]
  omega
theorem Sd.fin {N c q r : Int} (h : Sd N c 0 q r) (hc : 0 < c) : N / c = q := by
 have e := h.e
 have e0 : N / 2 ^ 0 = N := by rw [Int.pow_zero, Int.ediv_one]
 rw [e0] at e
 rw [e, Int.add_comm, Int.add_mul_ediv_right _ _ (by omega), Int.ediv_eq_zero_of_lt h.r0 h.r1]
 omega
end Go.Proofs.YtpdjnbpjgpdnkaaGreatDoor
namespace Go.Proofs.YtpdjnbpjgpdnkaaGreatDoor
open Go.RowKit

/-- Values as they lie in a row. -/
def vals2 (k v : Nat → Int) (n : Nat) : List Value := (List.range (n * 2)).map (fun i => if i % 2 = 0 then Value.int .i64 (k (i / 2)) else Value.int .u64 (v (i / 2)))
theorem vals2_len (k v : Nat → Int) (n : Nat) : (vals2 k v n).length = n * 2 := by simp [vals2]
theorem vals2_k {k v : Nat → Int} {n j : Nat} (h : j < n) : (vals2 k v n)[j * 2]? = some (.int .i64 (k j)) := by
 have h1 : j * 2 < n * 2 := by omega
 have h2 : j * 2 % 2 = 0 := by omega
 have h3 : j * 2 / 2 = j := by omega
 simp [vals2, h1, h2, h3]
theorem vals2_v {k v : Nat → Int} {n j : Nat} (h : j < n) : (vals2 k v n)[j * 2 + 1]? = some (.int .u64 (v j)) := by
 have h1 : j * 2 + 1 < n * 2 := by omega
 have h2 : (j * 2 + 1) % 2 = 1 := by omega
 have h3 : (j * 2 + 1) / 2 = j := by omega
 simp [vals2, h1, h2, h3]
/-- What stays of it. -/
structure Rc where
 (g : Pg) (p : Pv) (e : En) (vQ : Value) (rb qb qc Bs : Nat)
section
variable {c : Rc} {vS : Value} {s : Ms} {w : World}
end
end Go.Proofs.YtpdjnbpjgpdnkaaGreatDoor
namespace Go.Proofs.YtpdjnbpjgpdnkaaGreatDoor
open Go.RowKit

theorem Tryz.infoCV : (Tryz.prog.info? 74).map (fun i => (i.zero, i.size, i.bytes)) = some (some (.agg #[.int .i64 0, .int .u64 0]), 2, 16) := by kernel_rfl
section
variable {c : Rc} {vS : Value} {s : Ms} {w : World}
end
end Go.Proofs.YtpdjnbpjgpdnkaaGreatDoor
namespace Go.Proofs.YtpdjnbpjgpdnkaaGreatDoor
open Go.RowKit

/-- A payment, where the machine stands behind the instruction already. -/
def Ms.payX (s : Ms) (hd amount party : Int) : Ms :=
 if party < 1 ∨ 3 < party then s.stop 6 else if hd - s.paid 0 - s.paid 1 - s.paid 2 < amount then s.stop 5 else { s with paid := updI s.paid (party - 1).toNat (s.paid (party - 1).toNat + amount) }
/-- The numbers that were taken, as they lie. -/
structure Tk (vb : Nat) (n : Nat) (x : Nat → Int) (w : World) : Prop where
 v : ∀ j, j < n → w.cell? ⟨vb, j, none⟩ = some (.int .u64 (x j))
 l : vb < w.heap.size
theorem Tk.below {vb n : Nat} {x : Nat → Int} {w w' : World} {k : Nat} (h : Tk vb n x w) (hb : Below k w w') (hk : vb < k) : Tk vb n x w' := ⟨fun j hj => (hb.cell (p := ⟨vb, j, none⟩) hk).trans (h.v j hj), Nat.lt_of_lt_of_le h.l hb.size⟩
end Go.Proofs.YtpdjnbpjgpdnkaaGreatDoor
namespace Go.Proofs.YtpdjnbpjgpdnkaaGreatDoor
open Go.RowKit

section
variable {c : Rc} {vS : Value} {s : Ms} {w : World}
end
end Go.Proofs.YtpdjnbpjgpdnkaaGreatDoor
namespace Go.Proofs.YtpdjnbpjgpdnkaaGreatDoor
open Go.RowKit

section
variable {c : Rc} {vS : Value} {s : Ms} {w : World}
/-- What way does. -/
def Ms.way (s : Ms) (o : Nat) (hd a x0 x1 : Int) : Ms :=
 if o = 25 then s.go a else if o = 26 then (if x0 = 0 then s.go a else s) else if o = 29 then s.payX hd x0 x1 else if o = 30 then (if x0 = 0 then { s with fail := a }.stop 1 else s) else if o = 31 then { s with fail := a }.stop 1 else s.stop 0
end
end Go.Proofs.YtpdjnbpjgpdnkaaGreatDoor
namespace Go.Proofs.YtpdjnbpjgpdnkaaGreatDoor
open Go.RowKit

section
variable {c : Rc} {vS : Value} {s : Ms} {w : World}
end
end Go.Proofs.YtpdjnbpjgpdnkaaGreatDoor
