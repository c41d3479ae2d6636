import Derived.Test.YtoejdocnpcbpiaaBPa
import Derived.Test.YtoejdocnpcbpiaaBPb
namespace Go.Proofs.Ytoejdocnpcbpiaa
open Go.RowKit

theorem add64_run (x y : Nat) (w : World) : (callFunc 16 #[.int .u64 (x : Nat), .int .u64 (y : Nat), .int .u64 0]).run Try.prog w =
    .ok (.value (.tuple #[.int .u64 (((x + y) % 18446744073709551616 : Nat) : Int), .int .u64 (((x + y) / 18446744073709551616 : Nat) : Int)])) w := by
  rw [run_callFunc_extern (fn := Try.f16) Try.func16 (by kernel_rfl) (by kernel_rfl) (by kernel_rfl) (e := add64Entry) (by kernel_rfl), run_add64 x y 0 (by omega) (by omega) (by omega) (by omega)]
  simp only [Result.andThen]
  congr 5 <;> omega
set_option maxRecDepth 10000 in
set_option maxHeartbeats 400000 in
theorem add_any (a b most : Nat) (w : World) (h1 : a < 18446744073709551616) (h2 : b < 18446744073709551616) (h3 : most < 18446744073709551616) :
    Calls Try.prog 7 #[.int .u64 (a : Nat), .int .u64 (b : Nat), .int .u64 (most : Nat)] w fun e w' => e = .returned (.int .u64 ((addB a b most : Nat) : Int)) ∧ w' = w := by
  have hr := add64_run a b
  by_cases g : a + b < 18446744073709551616
  · have e1 : (a + b) % 18446744073709551616 = a + b := Nat.mod_eq_of_lt g
    have e2 : (a + b) / 18446744073709551616 = 0 := Nat.div_eq_of_lt g
    simp only [e1, e2] at hr
    clear e1 e2
    have hv : Hid ((most < a + b → addB a b most = most) ∧ (¬ most < a + b → addB a b most = a + b)) := by show _ ∧ _; unfold addB; split <;> omega
    generalize addB a b most = v at *
    generalize a + b = s at *
    go_enter Try.func7, Try.ntmps7
    go_wp2
    · go_ret
      exact ⟨by rw [hv.out.1 (by assumption)]; rfl, rfl⟩
    · go_ret
      exact ⟨by rw [hv.out.2 (by assumption)]; rfl, rfl⟩
  · have e2 : (a + b) / 18446744073709551616 = 1 := by omega
    simp only [e2] at hr
    clear e2
    have hv : Hid (addB a b most = most) := by show _ = _; unfold addB; rw [if_pos (by omega)]
    generalize addB a b most = v at *
    generalize (a + b) % 18446744073709551616 = s at *
    go_enter Try.func7, Try.ntmps7
    go_wp2
    go_ret
    exact ⟨by rw [hv.out]; rfl, rfl⟩
end Go.Proofs.Ytoejdocnpcbpiaa
