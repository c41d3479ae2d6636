import Derived.Test.YtmbclemicfffoaaZL
namespace Go.Proofs.Ytmbclemicfffoaa
open Go.RowKit

theorem and_leZ (x m : Int) (hm : 0 ≤ m) (hm2 : m < 18446744073709551616) : 0 ≤ bits .and .u64 x m ∧ bits .and .u64 x m ≤ m := by
  have hM : (m % ((2 ^ IntKind.u64.bits : Nat) : Int)).toNat = m.toNat := by
    rw [Int.emod_eq_of_lt hm (by simpa [IntKind.bits] using hm2)]
  have hle : (x % ((2 ^ IntKind.u64.bits : Nat) : Int)).toNat &&& (m % ((2 ^ IntKind.u64.bits : Nat) : Int)).toNat ≤ m.toNat := by rw [hM]; exact Nat.and_le_right
  unfold bits
  simp only [BitVec.toNat_and, BitVec.toNat_ofInt]
  generalize (x % ((2 ^ IntKind.u64.bits : Nat) : Int)).toNat &&& (m % ((2 ^ IntKind.u64.bits : Nat) : Int)).toNat = r at *
  have hw : IntKind.u64.wrap (r : Int) = (r : Int) := IntWalk.u64_in _ ⟨by omega, by omega⟩
  rw [hw]
  constructor <;> omega
set_option maxRecDepth 10000 in
theorem lenZ (x : Nat) (h1 : 0 < x) (h2 : x < 256) : ∃ v : Nat, 2 ^ v ≤ 2 * x ∧ v ≤ 8 ∧ ∀ w : World, Calls Try.prog 51 #[.int .u64 (x : Nat)] w fun e w' => e = .returned (.int .i64 (v : Nat)) ∧ w' = w := by
  obtain ⟨v, g1, g2, g3⟩ := len64Z x h1 h2
  refine ⟨v, g1, g2, fun w => ?_⟩
  have H := hide (g3 w)
  clear g1 g2 g3
  go_enter Try.func51, Try.ntmps51
  go_wp2_with fail
  refine H.out.mono ?_
  rintro e w' ⟨rfl, rfl⟩
  go_wp2
  go_ret
  exact ⟨rfl, rfl⟩
set_option maxRecDepth 10000 in
set_option maxHeartbeats 1000000 in
theorem powZ (x : Nat) (h1 : 0 < x) (h2 : x < 256) : ∃ M : Nat, M ≤ 2 * x ∧ 0 < M ∧ ∀ w : World, Calls Try.prog 64 #[.int .i64 (x : Nat)] w fun e w' => e = .returned (.int .u64 (M : Nat)) ∧ w' = w := by
  obtain ⟨v, g1, g2, g3⟩ := lenZ x h1 h2
  refine ⟨2 ^ v, g1, Nat.two_pow_pos v, fun w => ?_⟩
  have H := hide (g3 w)
  clear g1 g3
  have HV : v = 0 ∨ v = 1 ∨ v = 2 ∨ v = 3 ∨ v = 4 ∨ v = 5 ∨ v = 6 ∨ v = 7 ∨ v = 8 := by omega
  have hxw : IntKind.u64.wrap (x : Int) = (x : Int) := IntWalk.u64_in _ ⟨by omega, by omega⟩
  rcases HV with rfl | rfl | rfl | rfl | rfl | rfl | rfl | rfl | rfl
  all_goals
    go_enter Try.func64, Try.ntmps64
    go_wp2_with fail
    refine H.out.mono ?_
    rintro e w' ⟨rfl, rfl⟩
    go_wp2
    go_ret
    exact ⟨rfl, rfl⟩
end Go.Proofs.Ytmbclemicfffoaa
