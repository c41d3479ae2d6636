import Derived.Test.YtbfjeabngdiejaaDoorFrame
namespace Go.Proofs.YtbfjeabngdiejaaDoor
open Go.RowKit Crc

theorem flip_bits (c r : Nat) (hr : r < 8) (hc : c < 256) : bits .xor .u8 (c : Int) ((2 : Int) ^ r % (256 : Int)) = ((c ^^^ 2 ^ r : Nat) : Int) := by
  have h2 : 2 ^ r < 256 := Nat.lt_of_lt_of_le (Nat.pow_lt_pow_right (by omega) hr) (by decide)
  have e : (2 : Int) ^ r % (256 : Int) = ((2 ^ r : Nat) : Int) := by
    have : (2 : Int) ^ r = ((2 ^ r : Nat) : Int) := by rw [Int.natCast_pow]; rfl
    rw [this]
    generalize 2 ^ r = q at *
    omega
  rw [e]
  exact u8_xor_nat c (2 ^ r) hc h2

set_option maxHeartbeats 400000 in
theorem flip_walk (g n cap j r c : Nat) (bit : Int) (w : World) (hj : j < n) (hr : r < 8) (hb : bit = (8 * j + r : Nat)) (hn : n ≤ 140737488355328) (hcl : c < 256) (hc : w.cell? ⟨g, j, none⟩ = some (.int .u8 (c : Int))) (hf : w.frozen? ⟨g, j, none⟩ = false) :
    Calls Tryd.prog 8 #[.slice (some ⟨g, 0, none⟩) n cap, .int .i64 bit] w fun e w' => e = .returned (.tuple #[]) ∧ w' = w.setCell ⟨g, j, none⟩ (.int .u8 ((c ^^^ 2 ^ r : Nat) : Int)) := by
  have HX : Hid (bits .xor .u8 (c : Int) ((2 : Int) ^ r % (256 : Int)) = ((c ^^^ 2 ^ r : Nat) : Int)) := flip_bits c r hr hcl
  have e3 : bit / 8 = (j : Int) := by omega
  have e4 : bit % 8 = (r : Int) := by omega
  have b1 : 0 ≤ bit := by omega
  have b2 : bit ≤ 1125899906842624 := by omega
  clear hb
  go_enter Tryd.func8, Tryd.ntmps8
  go_wp2
  go_end0
  exact ⟨rfl, by rw [HX.out]⟩

/-- The bytes with one bit turned. -/
def flipB (F : List Nat) (j r : Nat) : List Nat := F.set j (F.getD j 0 ^^^ 2 ^ r)
theorem vals_set (F : List Nat) (j x : Nat) : vals (F.set j x) = (vals F).set j (.int .u8 (x : Int)) := by simp [vals, List.map_set]
theorem flipB_len (F : List Nat) (j r : Nat) : (flipB F j r).length = F.length := by simp [flipB]
theorem flipB_lt (F : List Nat) (j r : Nat) (hr : r < 8) (hF : ∀ x ∈ F, x < 256) : ∀ x ∈ flipB F j r, x < 256 := by
  intro x hx
  rcases List.mem_or_eq_of_mem_set hx with h | rfl
  · exact hF x h
  · have h2 : 2 ^ r < 256 := Nat.lt_of_lt_of_le (Nat.pow_lt_pow_right (by omega) hr) (by decide)
    exact Nat.xor_lt_two_pow (n := 8) (getD_lt F hF j) h2

theorem flip_any (base g n : Nat) (F : List Nat) (bit : Int) (w : World) (hF : ∀ x ∈ F, x < 256) (hn : n ≤ 140737488355328) (h0 : 0 ≤ bit) (h1 : bit < 8 * (n : Int))
  (hown : w.ownsRow base 5 1 (.slice (some ⟨g, 0, none⟩) n n) n (vals F)) :
    Calls Tryd.prog 8 #[.slice (some ⟨g, 0, none⟩) n n, .int .i64 bit] w fun e w' => e = .returned (.tuple #[]) ∧
      ∃ j r, j < n ∧ r < 8 ∧ w'.ownsRow base 5 1 (.slice (some ⟨g, 0, none⟩) n n) n (vals (flipB F j r)) ∧ w.grownBy w' (some g) := by
  obtain ⟨B, rfl⟩ := Int.eq_ofNat_of_zero_le h0
  have hj : B / 8 < n := by omega
  refine (flip_walk g n n (B / 8) (B % 8) (F.getD (B / 8) 0) _ w hj (by omega) (by omega) hn (getD_lt F hF _) (owned_cells hown _ hj) (hown.frozenAt _)).mono ?_
  rintro e w' ⟨rfl, rfl⟩
  refine ⟨rfl, B / 8, B % 8, hj, by omega, ?_, (hown.stored _ _).2⟩
  have := (hown.stored (B / 8) (.int .u8 ((F.getD (B / 8) 0 ^^^ 2 ^ (B % 8) : Nat) : Int))).1
  unfold flipB
  rw [vals_set]
  exact this
end Go.Proofs.YtbfjeabngdiejaaDoor
