import Derived.Test.YtneginefcloceaaBPd
import Derived.Test.YtneginefcloceaaBPb
namespace Go.Proofs.Ytneginefcloceaa
open Go.RowKit

/-- May the field be? -/
def bok (p : Int × Int × Int) : Bool := !(decide (p.1 < p.2.1) || decide (p.1 > p.2.2))
theorem wrap_u64 (x : Int) (h1 : -9223372036854775808 ≤ x) (h2 : x < 9223372036854775808) : IntKind.u64.wrap x = if x < 0 then x + 18446744073709551616 else x := by
  have e : IntKind.u64.wrap x = x % 18446744073709551616 := rfl
  rw [e]
  split <;> omega
theorem bok_f (x : Int) (lo hi : Int) (hhi : hi < 9223372036854775808) (hl1 : 1 ≤ lo) (h1 : -9223372036854775808 ≤ x) (h2 : x < 9223372036854775808) : bok (IntKind.u64.wrap x, lo, hi) = (decide (x ≥ lo) && decide (x ≤ hi)) := by
  simp only [bok]
  rw [wrap_u64 x h1 h2, Bool.eq_iff_iff]
  simp only [Bool.not_eq_true', Bool.or_eq_false_iff, decide_eq_false_iff_not, Bool.and_eq_true, decide_eq_true_eq]
  split <;> omega
theorem bok_u (x lo hi : Int) : bok (x, lo, hi) = (decide (x ≥ lo) && decide (x ≤ hi)) := by
  simp only [bok]
  rw [Bool.eq_iff_iff]
  simp only [Bool.not_eq_true', Bool.or_eq_false_iff, decide_eq_false_iff_not, Bool.and_eq_true, decide_eq_true_eq]
  omega
theorem bnds_oks (c : Cf) (h : c.In) : c.bnds.map bok = c.oks := by
  have e2 : bok ((c.delay : Int), 0, 1000) = decide ((c.delay : Int) ≤ 1000) := by rw [bok_u, decide_eq_true (by omega), Bool.true_and]
  simp only [Cf.bnds, Cf.oks, List.map_cons, List.map_nil]
  rw [bok_f c.f 1 3 (by omega) (by omega) h.f1 h.f2, bok_f c.mb 1 8 (by omega) (by omega) h.m1 h.m2, e2]
  simp only [bok_u]
theorem bnds_at (L : List (Int × Int × Int)) (hL : L.length = 10) (k : Nat) (hk : k < 10) (w : World) : ∃ p : Int × Int × Int, L[k]? = some p ∧ (Instr.index 125 (.agg (bcells L).toArray) (.int .i64 (k : Int))).run Try.prog w = .ok (.agg #[.int .u64 p.1, .int .u64 p.2.1, .int .u64 p.2.2]) w := by
  match L, hL with
  | [a0, a1, a2, a3, a4, a5, a6, a7, a8, a9], _ =>
    match k, hk with
    | 0, _ => exact ⟨a0, rfl, by kernel_rfl⟩
    | 1, _ => exact ⟨a1, rfl, by kernel_rfl⟩
    | 2, _ => exact ⟨a2, rfl, by kernel_rfl⟩
    | 3, _ => exact ⟨a3, rfl, by kernel_rfl⟩
    | 4, _ => exact ⟨a4, rfl, by kernel_rfl⟩
    | 5, _ => exact ⟨a5, rfl, by kernel_rfl⟩
    | 6, _ => exact ⟨a6, rfl, by kernel_rfl⟩
    | 7, _ => exact ⟨a7, rfl, by kernel_rfl⟩
    | 8, _ => exact ⟨a8, rfl, by kernel_rfl⟩
    | 9, _ => exact ⟨a9, rfl, by kernel_rfl⟩
end Go.Proofs.Ytneginefcloceaa
