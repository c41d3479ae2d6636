import Derived.Test.YtlidehhcoepikaaGreatDoorM12
import Derived.Deep.RegionHeld
import Derived.Test.YtlidehhcoepikaaGreatDoorM9
import Derived.Test.YtlidehhcoepikaaGreatDoorM1
import Derived.Test.YtlidehhcoepikaaGreatDoorM39
namespace Go.Proofs.YtlidehhcoepikaaGreatDoor
open Go.RowKit Crc

theorem Pair.alloc {base limr d pv : Nat} {po : Option Addr} {w : World} {s : RS} (h : Pair base limr d pv po w s) (o : Obj) : Pair base limr d pv po (w.alloc o) s ∧ Keep base w (w.alloc o) := h.quiet (World.grownBy_alloc w o none) (fun g e => by cases e)
theorem Pair.below {base limr d pv : Nat} {po : Option Addr} {w w' : World} {s : RS} (h : Pair base limr d pv po w s) (hb : Below w.heap.size w w') : Pair base limr d pv po w' s ∧ Keep base w w' := h.quiet (below_none hb) (fun g e => by cases e)
theorem Pair.drewN {base limr d pv : Nat} {po : Option Addr} {w : World} {s : RS} (h : Pair base limr d pv po w s) (q : Nat) : Pair base limr d pv po (w.drewN q) s ∧ Keep base w (w.drewN q) := h.quiet (drew_grown w q) (fun g e => by cases e)

end Go.Proofs.YtlidehhcoepikaaGreatDoor
namespace Go.Proofs.YtlidehhcoepikaaGreatDoor
open Go.RowKit Crc

theorem Res.from {base limr d pv : Nat} {po : Option Addr} {w w1 w2 : World} (hk : Keep base w w1) (h : Res base limr d pv po w1 w2) : Res base limr d pv po w w2 := ⟨h.1, hk.trans h.2⟩
theorem Res.keep {base limr d pv : Nat} {po : Option Addr} {w w2 : World} {s : RS} (h : Pair base limr d pv po w2 s ∧ Keep base w w2) : Res base limr d pv po w w2 := ⟨⟨s, h.1⟩, h.2⟩
theorem Pair.drew {base limr d pv : Nat} {po : Option Addr} {w : World} {s : RS} (h : Pair base limr d pv po w s) : Pair base limr d pv po w.drew s ∧ Keep base w w.drew := h.quiet (row := none) ⟨rfl, rfl, rfl, Nat.le_refl _, fun _ _ _ => rfl⟩ (fun g e => by cases e)

end Go.Proofs.YtlidehhcoepikaaGreatDoor
namespace Go.Proofs.YtlidehhcoepikaaGreatDoor
open Go.RowKit Crc

theorem hi_snoc (l : List Nat) (c : Nat) : hi (l ++ [c]) = hi l * 256 + c := by simp [hi, List.foldl_append]
theorem hi_bigTo (v s : Nat) : ∀ j, j ≤ s → hi (bigTo v s j) = v / 2 ^ (8 * (s - j)) % 256 ^ j
  | 0, _ => by simp [bigTo, hi, Nat.mod_one]
  | j + 1, h => by
    rw [bigTo, hi_snoc, hi_bigTo v s j (by omega), show s - (j + 1) = s - 1 - j by omega, show 8 * (s - j) = 8 * (s - 1 - j) + 8 by omega, Nat.pow_add, ← Nat.div_div_eq_div_mul]
    generalize v / 2 ^ (8 * (s - 1 - j)) = u
    have e1 : (256 : Nat) ^ (j + 1) = 256 * 256 ^ j := by rw [Nat.pow_succ, Nat.mul_comm]
    have e2 : (2 : Nat) ^ 8 = 256 := rfl
    rw [e1, e2, Nat.mod_mul]
    omega
theorem hi_big (v s : Nat) (h : v < 256 ^ s) : hi (big v s) = v := by
  unfold big
  rw [hi_bigTo v s s (Nat.le_refl _), Nat.sub_self]
  simp [Nat.mod_eq_of_lt h]
theorem ahead_big (v s : Nat) (R : List Nat) (h : v < 256 ^ s) : hi (aheadV (big v s ++ R) s) = v ∧ aheadW (big v s ++ R) s = 0 := by
  have hl : (big v s).length = s := big_len v s s
  unfold aheadV aheadW
  rw [List.length_append, hl, if_neg (by omega), if_neg (by omega)]
  refine ⟨?_, rfl⟩
  rw [List.take_append_of_le_length (by omega), List.take_of_length_le (by omega)]
  exact hi_big v s h

theorem numGo_numTo : ∀ (f v i n : Nat) (R : List Nat), f + i = 9 → v * 2 ^ (7 * i) < 18446744073709551616 → (0 < v ∨ i = 0) → numGo (numTo f v ++ R) i n = (n + v * 2 ^ (7 * i), i + (numTo f v).length, 0)
  | 0, v, i, n, R, hf, hv, h0 => by
    obtain rfl : i = 9 := by omega
    have h1 : v = 1 := by omega
    subst h1
    simp [numTo, numGo]
  | f + 1, v, i, n, R, hf, hv, h0 => by
    have hi9 : ¬ i = 9 := by omega
    rw [numTo]
    by_cases hs : v < 128
    · rw [if_pos hs]
      simp only [List.cons_append, List.nil_append, numGo, List.length_cons, List.length_nil]
      rw [if_neg (by omega), if_neg (by omega), if_neg (by omega), Nat.mod_eq_of_lt hs]
    · rw [if_neg hs]
      simp only [List.cons_append, numGo, List.length_cons]
      rw [if_neg (by omega), if_pos (by omega)]
      have e : v % 128 * 2 ^ (7 * i) + v / 128 * 2 ^ (7 * (i + 1)) = v * 2 ^ (7 * i) := by
        rw [show 7 * (i + 1) = 7 + 7 * i by omega, Nat.pow_add, ← Nat.mul_assoc, ← Nat.add_mul]
        congr 1
        have : (2 : Nat) ^ 7 = 128 := rfl
        rw [this]
        omega
      have hm : (v % 128 + 128) % 128 = v % 128 := by omega
      rw [hm, numGo_numTo f (v / 128) (i + 1) _ R (by omega) (by omega) (.inl (by omega))]
      rw [Nat.add_assoc n, e]
      congr 2
      omega
theorem numAt_numB (v : Nat) (R : List Nat) (hv : v < 18446744073709551616) : numAt (numB v ++ R) = (v, (numB v).length, 0) := by
  unfold numAt numB
  rw [numGo_numTo 9 v 0 0 R rfl (by simpa using hv) (.inr rfl)]
  simp
theorem countAt_numB (v : Nat) (R : List Nat) (most : Int) (hv : v < 18446744073709551616) (hm : (v : Int) ≤ most) : countAt (numB v ++ R) most = (v, (numB v).length, 0) := by
  unfold countAt
  rw [numAt_numB v R hv]
  rw [if_neg (by simp), if_neg (by simp; omega)]
theorem blobAt_numB (B R : List Nat) (most : Int) (hv : B.length < 18446744073709551616) (hm : (B.length : Int) ≤ most) : blobAt (numB B.length ++ (B ++ R)) most = (B, (numB B.length).length + B.length, 0) := by
  unfold blobAt
  rw [countAt_numB _ _ _ hv hm]
  simp only
  rw [if_neg (by simp), if_neg (by simp)]
  rw [List.drop_left, List.take_left]
theorem flag_big (b : Bool) (R : List Nat) : flagV (big (if b then 1 else 0) 1 ++ R) = b ∧ flagW (big (if b then 1 else 0) 1 ++ R) = 0 := by
  cases b <;> exact ⟨rfl, rfl⟩
end Go.Proofs.YtlidehhcoepikaaGreatDoor
namespace Go.Proofs.YtlidehhcoepikaaGreatDoor
open Go.RowKit Crc

instance (s : ByteArray) : Decidable (Ascii s) := inferInstanceAs (Decidable (∀ i (h : i < s.size), (s[i]'h).toNat < 128))

/-- A field of a script. -/
structure Fl where
  K : Int
  N : Nat
  I : Int
  bo : Option Addr
  bn : Nat
  bc : Nat
  B : List Nat
  S : ByteArray
  M : Int
def Fl.cells (f : Fl) : Array Value := #[.int .i64 f.K, .int .u64 (f.N : Int), .int .i64 f.I, .slice f.bo f.bn f.bc, .string f.S, .int .i64 f.M]
/-- What is laid down of a field, if it may be. -/
def Fl.enc (f : Fl) : Option (List Nat) :=
  if f.K = 1 then some (big (f.N % 256) 1) else if f.K = 2 then some (big (f.N % 65536) 2) else if f.K = 3 then some (big (f.N % 4294967296) 4) else if f.K = 4 then some (big f.N 8) else
  if f.K = 5 then some (numB f.N) else if f.K = 6 then some (big (if f.N % 2 = 1 then 1 else 0) 1) else
  if f.K = 7 then (if f.I < 0 ∨ f.M < f.I then none else some (numB f.I.toNat)) else
  if f.K = 8 then (if f.M < (f.bn : Int) then none else some (numB f.bn ++ f.B)) else
  if f.K = 9 then (if f.M < (f.S.size : Int) ∨ ¬ Ascii f.S then none else some (numB f.S.size ++ strB f.S)) else some []
def sizeI (X : Option (List Nat)) : Int := match X with | none => -1 | some X => (X.length : Int)
/-- The field as it lies, and its bounds. -/
structure Fl.Ok (lim : Nat) (w : World) (f : Fl) : Prop where
  hN : f.N < 18446744073709551616
  hK1 : -9223372036854775808 ≤ f.K
  hK2 : f.K < 9223372036854775808
  hI1 : -9223372036854775808 ≤ f.I
  hI2 : f.I < 9223372036854775808
  hM1 : -9223372036854775808 ≤ f.M
  hM2 : f.M < 9223372036854775808
  hB : Shows lim w f.bo f.bn f.bc f.B
  hS : f.S.size ≤ 140737488355328

theorem big_length (v s : Nat) : (big v s).length = s := big_len v s s
theorem below_alloc (w : World) (o : Obj) : Below w.heap.size w (w.alloc o) := (Below.refl _ w).alloc (Nat.le_refl _) o
theorem below_drewN {B : Nat} {a w : World} {q : Nat} (h : Below B a w) : Below B a (w.drewN q) := ⟨h.os, h.tape, h.output, h.size, h.block⟩

end Go.Proofs.YtlidehhcoepikaaGreatDoor
namespace Go.Proofs.YtlidehhcoepikaaGreatDoor
open Go.RowKit Crc

end Go.Proofs.YtlidehhcoepikaaGreatDoor
namespace Go.Proofs.YtlidehhcoepikaaGreatDoor
open Go.RowKit Crc

end Go.Proofs.YtlidehhcoepikaaGreatDoor
namespace Go.Proofs.YtlidehhcoepikaaGreatDoor
open Go.RowKit Crc

/-- The lent copy, as it lies. -/
def Lent (wi : World) (gc n : Nat) (B : List Nat) : Prop := n = B.length ∧ wi.ownsRow gc 5 1 (.slice (some ⟨gc, 0, none⟩) (n + 4) (n + 4)) (n + 4) (vals (B ++ marksTo 4))
theorem Lent.next {wi w' : World} {gc n : Nat} {B : List Nat} {row : Option Nat} (h : Lent wi gc n B) (hg : wi.grownBy w' row) (hr : row ≠ some gc) : Lent w' gc n B :=
  ⟨h.1, h.2.kept hg (.inr (by simpa [Value.ownBlock] using fun e => hr e.symm))⟩
theorem Lent.shows {wi : World} {gc n : Nat} {B : List Nat} (h : Lent wi gc n B) (hB : ∀ x ∈ B, x < 256) (hl : n ≤ 140737488355328) : Shows wi.heap.size wi (some ⟨gc, 0, none⟩) n (n + 4) B := by
  refine ⟨h.1, by omega, hl, hB, gc, 0, fun _ => rfl, fun _ => owned_lt2 h.2, fun i hi => ?_⟩
  have := owned_cells h.2 i (by omega)
  rw [List.getD_eq_getElem?_getD, List.getElem?_append_left (by have := h.1; omega)] at this
  rw [Nat.zero_add, this, List.getD_eq_getElem?_getD]
end Go.Proofs.YtlidehhcoepikaaGreatDoor
namespace Go.Proofs.YtlidehhcoepikaaGreatDoor
open Go.RowKit Crc

end Go.Proofs.YtlidehhcoepikaaGreatDoor
namespace Go.Proofs.YtlidehhcoepikaaGreatDoor
open Go.RowKit Crc

/-- A new block's cells, behind the program's step and the reference's. -/
theorem Pair.cellP {base limr d pv : Nat} {po : Option Addr} {w wx w1 : World} {s : RS} (h : Pair base limr d pv po w s) {b j : Nat} {v : Value} (hb : w.heap.size ≤ b) (hc : wx.cell? ⟨b, j, none⟩ = some v) (hg : wx.grownBy w1 (rowP po)) : w1.cell? ⟨b, j, none⟩ = some v :=
  hg.cell hc (fun e => by have := (h.bpo b e.symm).2; omega)
theorem Pair.cellR {base limr d pv : Nat} {po : Option Addr} {w wx w1 : World} {s : RS} (h : Pair base limr d pv po w s) {b j : Nat} {v : Value} (hb : w.heap.size ≤ b) (hc : wx.cell? ⟨b, j, none⟩ = some v) (hg : wx.grownBy w1 (some pv)) : w1.cell? ⟨b, j, none⟩ = some v :=
  hg.cell hc (fun e => by have h1 := h.pvlt; have h2 : b = pv := (by simpa using e); omega)

theorem blobAt_len (B : List Nat) (most : Int) : (blobAt B most).1.length ≤ B.length := by
  unfold blobAt
  split
  · simp
  · split
    · simp
    · simp only [List.length_take, List.length_drop]; omega
theorem rest_le (s : RS) : s.rest.length ≤ s.B.length := by
  unfold RS.rest restB
  split
  · rw [List.length_drop]; omega
  · simp
theorem own_far {base : Nat} {w : World} {v : Value} {B : List Nat} (h : Owns base w v B) : ∀ g, v.ownBlock = some g → base ≤ g := by
  intro g hg
  obtain ⟨a0, c0, rfl, _, (⟨rfl, _⟩ | ⟨g', rfl, hb, _⟩)⟩ := h.form
  · cases hg
  · have : g' = g := by simpa [Value.ownBlock] using hg
    omega

end Go.Proofs.YtlidehhcoepikaaGreatDoor
