import Derived.Test.YtcagbggnlfeadaaGreatDoorWMu
import Derived.Deep.DeepCutAuto
namespace Go.Proofs.YtcagbggnlfeadaaGreatDoor
open Go.RowKit Crc

theorem flip_bits (c r : Nat) (hr : r < 8) (hc : c < 256) : bits .xor .u8 (c : Int) ((2 : Int) ^ r % (256 : Int)) = ((c ^^^ 2 ^ r : Nat) : Int) := by
  have h2 : 2 ^ r < 256 := Nat.lt_of_lt_of_le (Nat.pow_lt_pow_right (by omega) hr) (by decide)
  have e : (2 : Int) ^ r % (256 : Int) = ((2 ^ r : Nat) : Int) := by
    have : (2 : Int) ^ r = ((2 ^ r : Nat) : Int) := by rw [Int.natCast_pow]; rfl
    rw [this]
    generalize 2 ^ r = q at *
    omega
  rw [e]
  exact u8_xor_nat c (2 ^ r) hc h2

theorem vals_set (F : List Nat) (j x : Nat) : vals (F.set j x) = (vals F).set j (.int .u8 (x : Int)) := by simp [vals, List.map_set]
theorem owns_shows {base : Nat} {w : World} {a : Option Addr} {n c : Nat} {B : List Nat} (h : Owns base w (.slice a n c) B) (hn : n = B.length) : Shows w.heap.size w a n c B := by
  obtain ⟨ao, cap, e, s, -⟩ := h.form
  rw [← hn] at e s
  cases e
  exact s
theorem alloc_op (w : World) (v : Value) : (w.alloc (.cells #[.int .i64 0, .int .u64 0, .int .i64 0, .slice none 0 0, .slice none 0 0, v] 40)).cell? ⟨w.heap.size, 3, none⟩ = some (.slice none 0 0) ∧ (w.alloc (.cells #[.int .i64 0, .int .u64 0, .int .i64 0, .slice none 0 0, .slice none 0 0, v] 40)).cell? ⟨w.heap.size, 5, none⟩ = some v := by
  constructor <;> simp
end Go.Proofs.YtcagbggnlfeadaaGreatDoor
